package salvage_test

import (
	"strings"
	"testing"

	"shelf/api"
)

// 22.4: both magics, alone and with a part behind.
func TestMagics(t *testing.T) {
	wantRead(t, regular, gnu(), nil)
	wantRead(t, thin, parsed(api.Thin, 0, ""), nil)
	wantRead(t, regular+h("a/", 0), gnu(at(8, "a", "")), nil)
	wantRead(t, thin+h("a/", 0), parsed(api.Thin, 0, "", placed{8, away("a", 0)}), nil)
}

// 22.4: without a magic there is a damage at 0 of the bytes ahead of the first part, if there are none, too.
func TestNoMagic(t *testing.T) {
	a := h("a/", 0)
	wantRead(t, a, gnu(at(0, "a", "")), lost(bad(0, 0, api.ErrMagic)))
	for n := 1; n < 70; n++ {
		junk := strings.Repeat("x", n)
		wantRead(t, junk+a, gnu(at(n, "a", "")), lost(bad(0, n, api.ErrMagic)))
		wantRead(t, junk, gnu(), lost(bad(0, n, api.ErrMagic)))
	}
	for n := range 8 {
		wantRead(t, regular[:n], gnu(), lost(bad(0, n, api.ErrMagic)))
		wantRead(t, thin[:n], gnu(), lost(bad(0, n, api.ErrMagic)))
		wantRead(t, regular[:n]+a, gnu(at(n, "a", "")), lost(bad(0, n, api.ErrMagic)))
		wantRead(t, thin[:n]+a, gnu(at(n, "a", "")), lost(bad(0, n, api.ErrMagic)))
		wantRead(t, setByte(thin, n, 'x')+a, gnu(at(8, "a", "")), lost(bad(0, 8, api.ErrMagic)))
		wantRead(t, setByte(regular, n, 'x')+a, gnu(at(8, "a", "")), lost(bad(0, 8, api.ErrMagic)))
	}
	for _, b := range []string{a[:59], h("/0", 0), h("", 0), h("a/", 1), h("#1/1", 0), "x" + regular} {
		wantRead(t, b, gnu(), lost(bad(0, len(b), api.ErrMagic)))
	}
}

// 22.4: a magic further behind is no magic: without one at 0 an archive is not thin.
func TestMagicFurtherBehind(t *testing.T) {
	wantRead(t, "x"+thin+h("a/", 2)+"hi", gnu(at(9, "a", "hi")), lost(bad(0, 9, api.ErrMagic)))
	wantRead(t, regular+thin+h("a/", 2)+"hi", gnu(at(16, "a", "hi")), lost(bad(8, 8, api.ErrTail)))
	wantRead(t, thin+regular+h("a/", 2)+"hi", parsed(api.Thin, 0, "", placed{16, away("a", 2)}), lost(bad(8, 8, api.ErrTail), bad(76, 2, api.ErrShort)))
}

// 22.4: damages of each length, so that the part behind stands at even and at odd places.
func TestDamagesOfEachLength(t *testing.T) {
	a, b := whole("a/", "x"), whole("b/", "yz")
	for n := 1; n < 130; n++ {
		junk := strings.Repeat("x", n)
		code := api.ErrTail
		wantRead(t, regular+junk+a+b, gnu(at(8+n, "a", "x"), at(70+n, "b", "yz")), lost(bad(8, n, code)))
		wantRead(t, regular+a+junk+b, gnu(at(8, "a", "x"), at(70+n, "b", "yz")), lost(bad(70, n, code)))
		if n < 60 {
			code = api.ErrShort
		}
		wantRead(t, regular+a+b+junk, gnu(at(8, "a", "x"), at(70, "b", "yz")), lost(bad(132, n, code)))
		wantRead(t, regular+junk, gnu(), lost(bad(8, n, code)))
	}
}

// 22.4: the end of the file decides what a header is that is not whole, the least place at which a part stands decides where it goes on: within what seemed to be data, too.
func TestPartWithinDamagedPart(t *testing.T) {
	inner := whole("b/", "x")
	wantRead(t, regular+h("a/", len(inner)+1)+inner, gnu(at(68, "b", "x")), lost(bad(8, 60, api.ErrData)))
	wantRead(t, regular+h("a/", len(inner)-1)+inner, gnu(at(8, "a", inner[:61])), nil)
	wantRead(t, regular+h("a/", len(inner)-5)+inner, gnu(at(68, "b", "x")), lost(bad(8, 60, api.ErrPad)))
	wantRead(t, regular+h("a/", len(inner)-3)+inner, gnu(at(8, "a", inner[:59])), lost(bad(128, 2, api.ErrShort)))
	wantRead(t, regular+h("a/", len(inner)-2)+inner, gnu(at(8, "a", inner[:60])), lost(bad(128, 2, api.ErrShort)))
	wantRead(t, regular+h("a/", 999)+"data"+inner+"more", gnu(at(72, "b", "x")), lost(bad(8, 64, api.ErrData), bad(134, 4, api.ErrShort)))
}

// 22.4: of two parts one of which begins within the other's header the one at the least place is taken.
func TestLeastPlace(t *testing.T) {
	name := "0         " + tail + "b" // the size of the one header and its end are the beginning of the other one's name
	second := h(name+"/", 0)
	wantRead(t, regular+"??"+h("a/", 0)[:48]+second, gnu(at(10, "a", "")), lost(bad(8, 2, api.ErrTail), bad(70, 48, api.ErrShort)))
	wantRead(t, regular+"??"+h("/x", 0)[:48]+second, gnu(at(58, name, "")), lost(bad(8, 50, api.ErrTail)))
	wantRead(t, regular+h("/x", 0)[:48]+second, gnu(at(56, name, "")), lost(bad(8, 48, api.ErrName)))
	wantRead(t, "?"+h("/x", 0)[:48]+second, gnu(at(49, name, "")), lost(bad(0, 49, api.ErrMagic)))
}

// 22.4: while the next part is sought nothing is taken: the kind, the place of special members and the names stay as they are.
func TestSeekingTakesNothing(t *testing.T) {
	bsdLike := h("b", 0)       // would make the archive BSD
	refused := h("#1/0", 0)    // no name
	tableLike := h("//", 9999) // its data lie beyond the end
	wantRead(t, regular+refused+h("a/", 0)+bsdLike, gnu(at(68, "a", "")), lost(bad(8, 60, api.ErrName), bad(128, 60, api.ErrMixed)))
	wantRead(t, regular+tableLike+whole("//", "d/\n")+h("/0", 0), gnu(at(132, "d", "")), lost(bad(8, 60, api.ErrData)))
	wantRead(t, regular+tableLike+h("a", 0), parsed(api.BSD, 0, "", at(68, "a", "")), lost(bad(8, 60, api.ErrData)))
	wantRead(t, regular+h("/", 9999)+h("__.SYMDEF", 0)+h("a", 0), parsed(api.BSD, api.IndexBSD, "", at(128, "a", "")), lost(bad(8, 60, api.ErrData)))
	wantRead(t, regular+h("/", 9999)+h("/SYM64/", 0)+h("a/", 0), parsed(api.GNU, api.Index64, "", at(128, "a", "")), lost(bad(8, 60, api.ErrData)))
	wantRead(t, regular+h("//", 99999)+h("/0", 0)+h("//", 99999)+h("/0", 0)+h("a/", 0), gnu(at(248, "a", "")), lost(bad(8, 240, api.ErrData)))
	wantRead(t, thin+h("//", 99999)+h("/", 0)+h("a/", 7), parsed(api.Thin, api.Index32, "", placed{128, away("a", 7)}), lost(bad(8, 60, api.ErrData)))
	wantRead(t, regular+h("a/", 0)+bsdLike+h("/", 0)+h("c/", 0), gnu(at(8, "a", ""), at(188, "c", "")), lost(bad(68, 120, api.ErrMixed)))
}

// 22.4: the Code is that of the place where the damage begins, whatever stands further on in it.
func TestCodeOfTheFirstPlace(t *testing.T) {
	all := []struct {
		b    string
		code api.Errno
	}{{h("/x", 0), api.ErrName}, {noTail(h("b/", 0)), api.ErrTail}, {noField(h("b/", 0)), api.ErrField}, {h("b", 0), api.ErrMixed}, {h("/", 0), api.ErrPlace}, {h("b/", 1) + "xy", api.ErrPad}, {h("b/", 999), api.ErrData}, {h("/0", 0), api.ErrTable}}
	for _, x := range all {
		for _, y := range all {
			b := regular + h("a/", 0) + x.b + y.b + h("c/", 0)
			wantRead(t, b, gnu(at(8, "a", ""), at(68+len(x.b)+len(y.b), "c", "")), lost(bad(68, len(x.b)+len(y.b), x.code)))
		}
	}
}
