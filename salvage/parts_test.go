package salvage_test

import (
	"strings"
	"testing"

	"shelf/api"
)

// 22.1: a member with data of any length is followed by the next one behind its data, and behind their newline if their length is odd.
func TestMembersOfEachLength(t *testing.T) {
	for n := range 130 {
		data := strings.Repeat("d", n)
		next := 8 + 60 + n + n%2
		wantRead(t, regular+whole("a/", data)+h("b/", 0), gnu(at(8, "a", data), at(next, "b", "")), nil)
		bsd := parsed(api.BSD, api.NoIndex, "", at(8, "a", data), at(next, "b", ""))
		wantRead(t, regular+whole("a", data)+h("b", 0), bsd, nil)
		wantRead(t, whole("a/", data)+h("b/", 0), gnu(at(0, "a", data), at(next-8, "b", "")), lost(bad(0, 0, api.ErrMagic)))
	}
}

// 22.1: an index of each form and a table, of any length, are no members.
func TestSpecialMembers(t *testing.T) {
	for n := range 5 {
		data := strings.Repeat("i", n)
		next := 8 + 60 + n + n%2
		wantRead(t, regular+whole("/", data)+h("b/", 0), parsed(api.GNU, api.Index32, data, at(next, "b", "")), nil)
		wantRead(t, regular+whole("/SYM64/", data)+h("b/", 0), parsed(api.GNU, api.Index64, data, at(next, "b", "")), nil)
		wantRead(t, regular+whole("__.SYMDEF", data)+h("b", 0), parsed(api.BSD, api.IndexBSD, data, at(next, "b", "")), nil)
		wantRead(t, regular+whole("//", data)+h("b/", 0), gnu(at(next, "b", "")), nil)
		for _, field := range []string{"/", "/SYM64/", "//"} {
			form := map[string]api.Form{"/": api.Index32, "/SYM64/": api.Index64}[field]
			index := data
			if form == api.NoIndex {
				index = ""
			}
			wantRead(t, thin+whole(field, data)+h("b/", 3), parsed(api.Thin, form, index, placed{next, away("b", 3)}), nil)
		}
	}
}

// 22.1: the ordinary members of a thin archive have no data, whatever their sizes.
func TestThinMembers(t *testing.T) {
	for _, size := range []int{0, 1, 2, 77, api.MaxSize} {
		p := parsed(api.Thin, api.NoIndex, "", placed{8, away("a", size)}, placed{68, away("b", size)})
		wantRead(t, thin+h("a/", size)+h("b/", size), p, nil)
		p = parsed(api.Thin, api.NoIndex, "", placed{8, away("a", size)}, placed{69, away("b", size)})
		wantRead(t, thin+h("a/", size)+"\n"+h("b/", size), p, lost(bad(68, 1, api.ErrTail)))
	}
}

// 22.1: names of each Sort.
func TestNames(t *testing.T) {
	table := "seventeen.bytes.o/\nb c/\n"
	start := regular + whole("//", table)
	next := len(start)
	wantRead(t, start+whole("/0", "x")+h("/19", 0), gnu(at(next, "seventeen.bytes.o", "x"), at(next+62, "b c", "")), nil)
	wantRead(t, start+whole("/10", "")+h("a b/", 0), gnu(at(next, "bytes.o", ""), at(next+60, "a b", "")), nil)
	start = thin + whole("//", table)
	wantRead(t, start+h("/0", 1)+h("/19", 0), parsed(api.Thin, 0, "", placed{next, away("seventeen.bytes.o", 1)}, placed{next + 60, away("b c", 0)}), nil)
	wantRead(t, regular+whole("#1/5", "a b\x00\x00xyz")+whole("#1/3", "b c")+h("d", 0),
		parsed(api.BSD, 0, "", at(8, "a b", "xyz"), at(76, "b c", ""), at(140, "d", "")), nil)
	wantRead(t, regular+whole("#1/9", "__.SYMDEF"), parsed(api.BSD, 0, "", at(8, "__.SYMDEF", "")), nil)
}

// 22.1: each number of a header is told.
func TestNumbers(t *testing.T) {
	m := api.Meta{Date: 999999999999, UID: 123456, GID: 654321, Mode: 0o77777777}
	want := api.Member{Meta: m, Name: "a", Size: 2, Data: "hi"}
	wantRead(t, regular+head("a/", m, 2)+"hi", gnu(placed{8, want}), nil)
	wantRead(t, regular+xs+head("a", m, 2)+"hi", parsed(api.BSD, 0, "", placed{68, want}), lost(bad(8, 60, api.ErrTail)))
	want.Data = ""
	wantRead(t, thin+head("a/", m, 2), parsed(api.Thin, 0, "", placed{8, want}), nil)
}
