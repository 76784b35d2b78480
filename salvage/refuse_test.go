package salvage_test

import (
	"testing"

	"shelf/api"
)

// fault is what no part is, where the parts of start stand ahead of it and those of rest behind it.
type fault struct {
	start, bytes, rest string
	code               api.Errno
}

// wantFault: is what stands between refused with this code, and are the parts beside it told?
func wantFault(t *testing.T, f fault) {
	t.Helper()
	b := f.start + f.bytes + f.rest
	p, damages := toldRead(b)
	if len(damages) != 1 || damages[0] != bad(len(f.start), len(f.bytes), f.code) {
		t.Fatalf("the test is wrong: %v of %q", damages, b)
	}
	wantRead(t, b, p, damages)
}

// noTail is a header that does not end as it must.
func noTail(header string) string { return header[:58] + "x\n" + header[60:] }

// noField is a header with a field that is no number.
func noField(header string) string { return setByte(header, 30, 'x') }

// 22.3: each refusal, behind a part and as the first one, with parts behind it and at the end.
func TestEachRefusal(t *testing.T) {
	for _, rest := range []string{"", h("b/", 0)} {
		for _, start := range []string{regular, regular + h("a/", 0), regular + whole("/", "x"), thin, thin + h("a/", 3)} {
			for n := 1; n < 60 && rest == ""; n++ {
				wantFault(t, fault{start, h("a/", 0)[:n], rest, api.ErrShort})
			}
			wantFault(t, fault{start, noTail(h("a/", 0)), rest, api.ErrTail})
			wantFault(t, fault{start, h("a/", 0)[:59] + "x", rest, api.ErrTail})
			wantFault(t, fault{start, noField(h("a/", 0)), rest, api.ErrField})
			wantFault(t, fault{start, h("a/", 0)[:48] + "x         `\n", rest, api.ErrField})
			for _, field := range []string{"", "/x", "a/b", "a//", "/SYM64", "a\x00/"} {
				wantFault(t, fault{start, h(field, 0), rest, api.ErrName})
			}
			wantFault(t, fault{start, h("/0", 0), rest, api.ErrTable})
		}
		start := regular + h("a/", 0)
		for _, field := range []string{"b", "#1/0", "__.SYMDEF", "#1/2"} {
			wantFault(t, fault{start, h(field, 0), rest, api.ErrMixed})
			wantFault(t, fault{thin, h(field, 0), rest, api.ErrMixed})
		}
		for _, field := range []string{"/", "/SYM64/", "//"} {
			wantFault(t, fault{start, h(field, 0), rest, api.ErrPlace})
			wantFault(t, fault{thin + h("a/", 3), h(field, 0), rest, api.ErrPlace})
		}
		for _, start := range []string{regular, start} {
			wantFault(t, fault{start, h("a/", 99) + "xy", rest, api.ErrData})
			wantFault(t, fault{start, h("a/", 3) + "xy", rest, padOrData(rest)})
			wantFault(t, fault{start, h("a/", 1) + "x?", rest, api.ErrPad})
		}
		wantFault(t, fault{regular + h("//", 0), h("/0", 0), rest, api.ErrTable})
		wantFault(t, fault{regular + h("//", 4) + "d/\n\n", h("/3", 0), rest, api.ErrTable})
		wantFault(t, fault{regular + h("//", 4) + "/\n\n\n", h("/0", 0), rest, api.ErrName})
	}
	wantFault(t, fault{regular, h("a/", 1) + "x", "", api.ErrPad})
	wantFault(t, fault{regular, h("a/", 1), "", api.ErrData})
	for _, rest := range []string{"", h("b", 0)} {
		start := regular + h("a", 0)
		for _, field := range []string{"b/", "/0", "/", "/SYM64/", "//"} {
			wantFault(t, fault{start, h(field, 0), rest, api.ErrMixed})
		}
		wantFault(t, fault{start, h("__.SYMDEF", 0), rest, api.ErrPlace})
		wantFault(t, fault{start, h("#1/0", 0), rest, api.ErrName})
		wantFault(t, fault{start, whole("#1/3", "a/b"), rest, api.ErrName})
		wantFault(t, fault{start, whole("#1/4", "abc"), rest, api.ErrName})
	}
}

// padOrData is the refusal of three bytes of data of which two are there.
func padOrData(rest string) api.Errno {
	if rest == "" {
		return api.ErrData
	}
	return api.ErrPad
}

// 22.3: where two refusals hold at once, the first in the chapter's order is told.
func TestOrderOfRefusals(t *testing.T) {
	gnuStart, bsdStart := regular+h("a/", 0), regular+h("a", 0)
	for _, f := range []fault{
		{gnuStart, noTail(h("/x", 0))[:59], "", api.ErrShort},
		{gnuStart, noTail(noField(h("/x", 0))), "", api.ErrTail},
		{gnuStart, noField(h("/x", 0)), "", api.ErrField},
		{gnuStart, h("", 99), "", api.ErrName},
		{gnuStart, h("/x", 1) + "xy", "", api.ErrName},
		{gnuStart, h("__.SYMDEF", 99), "", api.ErrMixed}, // an index behind a part, too
		{bsdStart, h("/", 99), "", api.ErrMixed},
		{bsdStart, h("//", 99), "", api.ErrMixed},
		{gnuStart, h("b", 99), "", api.ErrMixed},
		{gnuStart, h("b", 1) + "xy", "", api.ErrMixed},
		{gnuStart, h("#1/9", 1), "", api.ErrMixed},
		{bsdStart, h("/9", 1), "", api.ErrMixed},
		{gnuStart, h("/", 99), "", api.ErrPlace},
		{gnuStart, h("/", 1) + "xy", "", api.ErrPlace},
		{gnuStart, h("//", 99), "", api.ErrPlace},
		{gnuStart, h("//", 1) + "xy", "", api.ErrPlace},
		{bsdStart, h("__.SYMDEF", 99), "", api.ErrPlace},
		{gnuStart, h("/9", 99), "", api.ErrData},
		{gnuStart, h("/9", 1), "", api.ErrData},
		{bsdStart, h("#1/0", 99), "", api.ErrData},
		{bsdStart, h("#1/0", 1), "", api.ErrData},
		{gnuStart, h("/9", 1) + "xy", "", api.ErrPad},
		{gnuStart, h("/9", 1) + "x", "", api.ErrPad},
		{bsdStart, h("#1/0", 1) + "xy", "", api.ErrPad},
	} {
		wantFault(t, f)
	}
}

// 22.3: special members of a thin archive have data, ordinary ones have none, so that no data of theirs lie beyond the end.
func TestDataOfThin(t *testing.T) {
	for _, field := range []string{"/", "/SYM64/", "//"} {
		wantFault(t, fault{thin, h(field, 3), "", api.ErrData})
		wantFault(t, fault{thin, h(field, 3) + "abc", "", api.ErrPad})
		wantFault(t, fault{thin, h(field, 3) + "abcd", h("a/", 3), api.ErrPad})
	}
	wantRead(t, thin+h("a/", 3), parsed(api.Thin, 0, "", placed{8, away("a", 3)}), nil)
}

// 22.3: the place of an index is ahead of all that was taken, a table's ahead of all but an index; what was not taken does not count.
func TestPlaces(t *testing.T) {
	junk := xs + h("/x", 0)
	wantRead(t, regular+junk+h("/", 0)+junk+h("//", 0)+junk+h("a/", 0), parsed(api.GNU, api.Index32, "", at(488, "a", "")),
		lost(bad(8, 120, api.ErrTail), bad(188, 120, api.ErrTail), bad(368, 120, api.ErrTail)))
	for _, first := range []string{"/", "/SYM64/", "//", "a/"} {
		for _, second := range []string{"/", "/SYM64/", "//"} {
			b := regular + h(first, 0) + h(second, 0) + h("c/", 0)
			p, damages := toldRead(b)
			if taken := len(damages) == 0; taken != (second == "//" && (first == "/" || first == "/SYM64/")) {
				t.Fatalf("the test is wrong: %q behind %q: %v", second, first, damages)
			}
			wantRead(t, b, p, damages)
		}
	}
	wantRead(t, regular+h("/", 0)+h("//", 0)+h("/", 0)+h("//", 0)+h("a/", 0), parsed(api.GNU, api.Index32, "", at(248, "a", "")), lost(bad(128, 120, api.ErrPlace)))
}
