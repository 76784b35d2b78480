package arc_test

import (
	"testing"

	"shelf/api"
	"shelf/arc"
)

// The chapter's examples, row by row.
func TestExamples(t *testing.T) {
	const m, th = regular, thin
	wantParse(t, m, parsed(api.GNU, api.NoIndex, ""))
	for _, b := range []string{"", "!<arch>", "!<arch>x"} {
		wantRefused(t, b, 0, api.ErrMagic)
	}
	wantParse(t, m+h("a.o/", 3)+"abc\n", parsed(api.GNU, 0, "", placed{8, mem("a.o", "abc")}))
	wantRefused(t, m+h("a.o/", 3)+"abc", 8, api.ErrPad)
	wantRefused(t, m+h("a.o/", 3)+"abcx", 8, api.ErrPad)
	wantRefused(t, m+h("a.o/", 5)+"abc\n", 8, api.ErrData)
	wantParse(t, m+h("a.o", 2)+"ab", parsed(api.BSD, 0, "", placed{8, mem("a.o", "ab")}))
	wantParse(t, m+h("#1/4", 6)+"a o\x00xy", parsed(api.BSD, 0, "", placed{8, mem("a o", "xy")}))
	wantRefused(t, m+h("#1/7", 6)+"a o\x00xy", 8, api.ErrName)
	wantRefused(t, m+h("a.o/", 0)+h("b.o", 0), 68, api.ErrMixed)
	table := h("//", 19) + "seventeen.bytes.o/\n\n"
	wantParse(t, m+table+h("/0", 0), parsed(api.GNU, 0, "", placed{88, mem("seventeen.bytes.o", "")}))
	wantRefused(t, m+table+h("/19", 0), 88, api.ErrTable)
	index := h("/", 4) + "\x00\x00\x00\x00"
	wantParse(t, m+index+h("//", 0)+h("a/", 0), parsed(api.GNU, api.Index32, "\x00\x00\x00\x00", placed{132, mem("a", "")}))
	wantRefused(t, m+h("//", 0)+index, 68, api.ErrPlace)
	wantParse(t, m+h("__.SYMDEF", 0), parsed(api.BSD, api.IndexBSD, ""))
	wantRefused(t, m+h("a/", 0)+h("__.SYMDEF", 0), 68, api.ErrMixed)
	wantRefused(t, m+h("a", 0)+h("__.SYMDEF", 0), 68, api.ErrPlace)
	wantParse(t, th+h("//", 5)+"a.o/\n\n"+h("/0", 77), parsed(api.Thin, 0, "", placed{74, away("a.o", 77)}))
	wantRefused(t, th+h("a.o", 0), 8, api.ErrMixed)
	wantRefused(t, m+"x", 8, api.ErrShort)
	wantRefused(t, m+h("a/", 0)+h("b/", 0)[:59], 68, api.ErrShort)
	wantRefused(t, m+h("a/", 0)[:58]+"\n`", 8, api.ErrTail)
}

// The chapter's example of Each.
func TestExampleOfEach(t *testing.T) {
	b := regular + h("a/", 1) + "x\n" + h("b/", 0) + h("c", 0)
	wantRefused(t, b, 130, api.ErrMixed)
	wantEach(t, b, parsed(api.GNU, 0, "", placed{8, mem("a", "x")}, placed{70, mem("b", "")}))
}

// The chapter's edges, one by one.
func TestEdges(t *testing.T) {
	for _, field := range []string{"a/", "a", "#1/1"} {
		wantRefused(t, regular+h(field, 3)+"abc", 8, api.ErrPad)
		wantRefused(t, regular+h(field, 3)+"abc ", 8, api.ErrPad)
	}
	wantRefused(t, regular+h("#1/3", 0), 8, api.ErrName)
	table := whole("//", "a.o/\n")
	wantRefused(t, regular+h("/0", 0)+table, 8, api.ErrTable)
	wantRefused(t, thin+h("/0", 0)+table, 8, api.ErrTable)
	for _, index := range []string{"/", "/SYM64/"} {
		for _, second := range []string{"/", "/SYM64/"} {
			wantRefused(t, regular+h(index, 0)+h(second, 0), 68, api.ErrPlace)
		}
	}
	wantRefused(t, regular+h("__.SYMDEF", 0)+h("__.SYMDEF", 0), 68, api.ErrPlace)
	wantRefused(t, regular+table+table, 74, api.ErrPlace)
	wantRefused(t, regular+h("a/", 0)+table, 68, api.ErrPlace)
	wantParse(t, thin+whole("/", "abc")+table+h("/0", 7)+h("/0", 9), parsed(api.Thin, api.Index32, "abc", placed{138, away("a.o", 7)}, placed{198, away("a.o", 9)}))
	wantParse(t, thin+h("a.o/", 7), parsed(api.Thin, 0, "", placed{8, away("a.o", 7)}))
	wantParse(t, regular+whole("#1/9", "__.SYMDEF"), parsed(api.BSD, 0, "", placed{8, mem("__.SYMDEF", "")}))
	wantParse(t, regular+h("__.SYMDEF", 0)+whole("#1/9", "__.SYMDEFx"), parsed(api.BSD, api.IndexBSD, "", placed{68, mem("__.SYMDEF", "x")}))
}

// 9.9: eight bytes of the regular magic alone are GNU, those of the thin one thin.
func TestMagicAlone(t *testing.T) {
	if p, at, e := arc.Parse(regular); p.Kind != api.GNU || at != 0 || e != api.OK {
		t.Errorf("Parse of the regular magic: kind %d, %d, %d", p.Kind, at, e)
	}
	wantParse(t, thin, parsed(api.Thin, api.NoIndex, ""))
}
