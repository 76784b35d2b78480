package salvage_test

import (
	"testing"

	"shelf/api"
	"shelf/salvage"
)

// The chapter's examples of Read, row by row.
func TestExamplesOfRead(t *testing.T) {
	wantRead(t, regular, gnu(), nil)
	wantRead(t, "", gnu(), lost(bad(0, 0, api.ErrMagic)))
	wantRead(t, "!<arch>", gnu(), lost(bad(0, 7, api.ErrMagic)))
	wantRead(t, regular+h("a/", 1)+"x\n"+h("b/", 0), gnu(at(8, "a", "x"), at(70, "b", "")), nil)
	wantRead(t, h("a/", 1)+"x\n"+h("b/", 0), gnu(at(0, "a", "x"), at(62, "b", "")), lost(bad(0, 0, api.ErrMagic)))
	wantRead(t, "rubbish"+h("a", 0), parsed(api.BSD, 0, "", at(7, "a", "")), lost(bad(0, 7, api.ErrMagic)))
	wantRead(t, regular+xs+h("b/", 0), gnu(at(68, "b", "")), lost(bad(8, 60, api.ErrTail)))
	wantRead(t, regular+h("a/", 3)+"xy"+h("b/", 0), gnu(at(70, "b", "")), lost(bad(8, 62, api.ErrPad)))
	wantRead(t, regular+h("a/", 99)+"xy"+h("b/", 0), gnu(at(70, "b", "")), lost(bad(8, 62, api.ErrData)))
	wantRead(t, regular+h("a/", 0)+h("b", 0)+h("c/", 0), gnu(at(8, "a", ""), at(128, "c", "")), lost(bad(68, 60, api.ErrMixed)))
	wantRead(t, regular+xs+h("/", 0)+h("//", 0)+h("c/", 0), parsed(api.GNU, api.Index32, "", at(188, "c", "")), lost(bad(8, 60, api.ErrTail)))
	wantRead(t, regular+h("c/", 0)+h("//", 4)+"d/\n\n"+h("/0", 0), gnu(at(8, "c", "")), lost(bad(68, 124, api.ErrPlace)))
	wantRead(t, regular+xs+h("/0", 0), gnu(), lost(bad(8, 120, api.ErrTail)))
	wantRead(t, thin+h("a/", 77)+xs+h("b/", 5), parsed(api.Thin, 0, "", placed{8, away("a", 77)}, placed{128, away("b", 5)}), lost(bad(68, 60, api.ErrTail)))
	wantRead(t, regular+h("a/", 0)+"ten bytes.", gnu(at(8, "a", "")), lost(bad(68, 10, api.ErrShort)))
}

// The chapter's examples of Run, one behind the other on one volume.
func TestExamplesOfRun(t *testing.T) {
	list := files{"bad.a": put(regular + xs + h("b/", 2) + "hi")}
	f := durable(t, list)
	wantResult(t, "bad.a", salvage.Run(f, "bad.a", "good.a", env), api.Result{Out: "damage at 8, 60 bytes: bad header end\n", Code: api.ErrDamage})
	list = list.but("good.a", made(regular+h("b/", 2)+"hi"))
	wantFiles(t, "bad.a", f, list)
	wantResult(t, "good.a", salvage.Run(f, "good.a", "good.a", env), api.Result{})
	wantFiles(t, "good.a", f, list)
	wantResult(t, "none", salvage.Run(f, "none", "x", env), api.Result{Msg: "salvage: none: no such file\n", Code: api.ErrMissing})
	wantResult(t, "a/b", salvage.Run(f, "bad.a", "a/b", env), api.Result{Msg: "salvage: a/b: bad file name\n", Code: api.ErrFileName})
	wantFiles(t, "refused", f, list)
}
