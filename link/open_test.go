package link_test

import (
	"fmt"
	"slices"
	"testing"

	"shelf/api"
	"shelf/link"
)

// parsed is an archive as chapter 9 tells it.
func parsed(form api.Form, index string, at []int, list ...api.Member) api.Parsed {
	return api.Parsed{Archive: api.Archive{Form: form, Index: index, Members: list}, At: at}
}

func wantOpen(t *testing.T, what string, p api.Parsed, want api.Library, code api.Errno) {
	t.Helper()
	got, e := link.Open(p)
	if e != code || !sameLibrary(got, want) {
		t.Errorf("%s:\n got %+v, %d\nwant %+v, %d", what, got, e, want, code)
	}
}

// wantRefused: Open refuses it, and answers nothing beside.
func wantRefused(t *testing.T, what string, p api.Parsed, code api.Errno) {
	t.Helper()
	wantOpen(t, what, p, api.Library{}, code)
}

// three are members that define and need something, and one that is no ELF file.
func three() []api.Member {
	return []api.Member{member("a.o", object("f g", "x")), member("t", "text"), member("b.o", object("h", "f f y"))}
}

// libraryOfThree is what Open tells of them beside the entries.
func libraryOfThree(pairs string) api.Library {
	return api.Library{Entries: entries(pairs), At: numbers("88 500 600"), Names: words("a.o t b.o"), Defines: lists("f g,,h"), Needs: lists("x,,f f y")}
}

// 18.1, 1: At and Members of two lengths, ahead of every other refusal and of none.
func TestTwoLengths(t *testing.T) {
	indexes := []struct {
		form  api.Form
		bytes string
	}{
		{api.NoIndex, ""}, {api.NoIndex, "x"}, {api.Index32, ""}, {api.Index32, encoded(t, api.Index32, "f:8")}, {api.Index64, encoded(t, api.Index64, "f:9")},
		{api.IndexBSD, "x"}, {4, ""}, {-1, encoded(t, api.Index32, "f:8")},
	}
	kinds := [][]api.Member{three(), {member("t", "text"), member("u", ""), member("v", "x")}}
	for _, x := range indexes {
		for _, list := range kinds {
			for members := range 4 {
				for at := range 6 {
					if at == members {
						continue
					}
					p := parsed(x.form, x.bytes, numbers("8 70 140 200 300 400")[:at], list[:members]...)
					wantRefused(t, fmt.Sprintf("18.1: form %d, %d members, %d places", x.form, members, at), p, api.ErrRange)
				}
			}
		}
	}
}

// 18.1, 2: without an index nothing may be defined, whatever Index holds.
func TestNoIndex(t *testing.T) {
	indexes := []string{"", "x", encoded(t, api.Index32, "f:8"), encoded(t, api.Index32, "f:9"), encoded(t, api.Index64, "g:70"), "\x00\x00\x00\x00"}
	for _, bytes := range indexes {
		for number := range 3 { // which member defines something
			for _, data := range []string{object("f", ""), object("f g", "x y"), objectOf(symbol{"w", 2, 7}), objectOf(symbol{"g", 1, 0xfff2})} {
				list := []api.Member{member("t", "text"), member("n.o", object("", "x")), member("e", "")}
				list[number] = member("d.o", data)
				wantRefused(t, fmt.Sprintf("18.1: member %d defines, Index %q", number, bytes), parsed(api.NoIndex, bytes, numbers("8 70 140"), list...), api.ErrNoIndex)
			}
		}
		spoilt := object("f", "x")
		list := []api.Member{member("t", "text"), member("n.o", object("", "x y x")), member("cut.o", spoilt[:len(spoilt)-1]), member("l.o", objectOf(symbol{"l", 0, 1}, symbol{"u", 2, 0}))}
		want := api.Library{At: numbers("8 70 140 5"), Names: words("t n.o cut.o l.o"), Defines: lists(",,,"), Needs: lists(",x y x,,")}
		wantOpen(t, fmt.Sprintf("18.1: nothing is defined, Index %q", bytes), parsed(api.NoIndex, bytes, want.At, list...), want, api.OK)
		wantOpen(t, fmt.Sprintf("18.1: no members, Index %q", bytes), parsed(api.NoIndex, bytes, nil), api.Library{}, api.OK)
	}
}

// 18.1, 3: each form with an index that is refused, and a form that is none.
func TestIndexRefused(t *testing.T) {
	at := numbers("88 500 600")
	for _, form := range forms() {
		whole := encoded(t, form, "f:88 h:600")
		for _, bytes := range []string{"", "x", whole[:3], whole[:len(whole)-3], "\xff\xff\xff\xff" + whole, whole[:8]} {
			wantRefused(t, fmt.Sprintf("18.1: form %d, index %q", form, bytes), parsed(form, bytes, at, three()...), api.ErrIndex)
		}
		wantOpen(t, "18.1: the whole index", parsed(form, whole, at, three()...), libraryOfThree("f:88 h:600"), api.OK)
	}
	wantRefused(t, "18.1: another form's index", parsed(api.Index64, encoded(t, api.Index32, "f:88"), at, three()...), api.ErrIndex)
	for _, form := range []api.Form{-1 << 63, -1, 4, 7, 1<<63 - 1} {
		for _, bytes := range []string{"", "x", encoded(t, api.Index32, "f:88"), encoded(t, api.Index32, "f:1")} {
			wantRefused(t, fmt.Sprintf("18.1: form %d", form), parsed(form, bytes, at, three()...), api.ErrForm)
			wantRefused(t, fmt.Sprintf("18.1: form %d, no members", form), parsed(form, bytes, nil), api.ErrForm)
		}
	}
}

// 18.1, 3: an entry's place that is no member's, wherever it stands.
func TestPlaceOfNoMember(t *testing.T) {
	at := numbers("88 500 600")
	for _, form := range forms() {
		for _, pairs := range []string{"f:87", "f:89", "f:0", "f:88 g:88 h:601", "f:2 g:88", "f:88 x:501 h:600", "f:4294967295"} {
			wantRefused(t, fmt.Sprintf("18.1: form %d, entries %s", form, pairs), parsed(form, encoded(t, form, pairs), at, three()...), api.ErrIndex)
		}
		wantRefused(t, "18.1: an entry and no members", parsed(form, encoded(t, form, "f:8"), nil), api.ErrIndex)
		wantOpen(t, "18.1: neither entries nor members", parsed(form, encoded(t, form, ""), nil), api.Library{}, api.OK)
	}
	wantRefused(t, "18.1: a far place", parsed(api.Index64, encoded(t, api.Index64, "f:9223372036854775807"), at, three()...), api.ErrIndex)
}

// 18.2: the five lists, in each form; what the index says of the members is not held against them.
func TestLibrary(t *testing.T) {
	at := numbers("88 500 600")
	for _, form := range forms() {
		for _, pairs := range []string{"f:88 g:88 h:600", "h:600 g:88 f:88", "f:88", "", "lie:500", "h:88 f:600", "f:88 f:88 f:600", "x:88 y:600"} {
			wantOpen(t, fmt.Sprintf("18.2: form %d, entries %s", form, pairs), parsed(form, encoded(t, form, pairs), at, three()...), libraryOfThree(pairs), api.OK)
		}
	}
	far := api.Library{Entries: entries("f:4294967296 f:0"), At: []int{1 << 32, 0}, Names: words("a a"), Defines: lists("f,f"), Needs: lists(",")}
	wantOpen(t, "18.2: far places", parsed(api.Index64, encoded(t, api.Index64, "f:4294967296 f:0"), far.At, member("a", object("f", "")), member("a", object("f", ""))), far, api.OK)
	twice := api.Library{Entries: entries("f:8"), At: numbers("8 8 -1"), Names: []string{"", "a b", "\xff\n"}, Defines: lists("f,g,"), Needs: lists(",,")}
	wantOpen(t, "18.2: a place twice, one below 0, names that are none", parsed(api.Index32, encoded(t, api.Index32, "f:8"), twice.At, member("", object("f", "")), member("a b", object("g", "")), member("\xff\n", "")), twice, api.OK)
}

// 18.2: a name as often as the member says it, in its symbols' order.
func TestNamesOfMembers(t *testing.T) {
	data := objectOf(symbol{"z", 1, 1}, symbol{"u", 1, 0}, symbol{"a", 2, 1}, symbol{"", 1, 1}, symbol{"z", 1, 2}, symbol{"u", 1, 0}, symbol{"b", 1, 0}, symbol{"z", 1, 0}, symbol{"w", 2, 0}, symbol{"l", 0, 1})
	want := api.Library{Entries: entries("z:8"), At: numbers("8"), Names: words("o"), Defines: lists("z a z"), Needs: lists("u u b z")}
	wantOpen(t, "18.2", parsed(api.Index32, encoded(t, api.Index32, "z:8"), want.At, member("o", data)), want, api.OK)
}

// 18.2: Kind, Stamp and the members' Meta and Size are not looked at.
func TestNotLookedAt(t *testing.T) {
	for _, form := range append(forms(), api.NoIndex) {
		for _, kind := range []api.Kind{api.GNU, api.Thin, api.BSD, -1, 3} {
			for _, size := range []int{0, -1, 1, 1 << 62} {
				p := parsed(form, "", numbers("88 500 600"), three()...)
				want, code := api.Library{}, api.ErrNoIndex
				if form != api.NoIndex {
					p.Index = encoded(t, form, "f:88")
					want, code = libraryOfThree("f:88"), api.OK
				}
				p.Kind, p.Stamp = kind, -size
				for i := range p.Members {
					p.Members[i].Size = size
					p.Members[i].Meta = api.Meta{Date: -size, UID: size, GID: -1, Mode: size}
				}
				wantOpen(t, fmt.Sprintf("18.2: form %d, kind %d, size %d", form, kind, size), p, want, code)
			}
		}
	}
}

// 18.2, R4: all lists are new memory, and the archive is as it was, its spare room included.
func TestOpenMemory(t *testing.T) {
	for _, form := range append(forms(), api.NoIndex) {
		list := append(three(), member("spare", "s"))
		at := numbers("88 500 600 1000")
		p := parsed(form, "", at[:3], list[:3]...)
		if form == api.NoIndex {
			list[0], list[2] = member("a.o", object("", "x")), member("b.o", object("", "f f y"))
		} else {
			p.Index = encoded(t, form, "f:88 h:600")
		}
		before := slices.Clone(list)
		first, _ := link.Open(p)
		want := copyLibrary(first)
		second, _ := link.Open(p)
		spoil(&second)
		if !slices.Equal(list, before) || !slices.Equal(at, numbers("88 500 600 1000")) {
			t.Errorf("18.2: form %d: the archive is %+v, %d", form, list, at)
		}
		if !sameLibrary(first, want) {
			t.Errorf("18.2: form %d: an earlier answer is %+v, want %+v", form, first, want)
		}
		for i := range list {
			list[i], at[i] = api.Member{}, -9
		}
		if !sameLibrary(first, want) {
			t.Errorf("18.2: form %d: with another archive it is %+v, want %+v", form, first, want)
		}
		wantApart(t, first)
	}
}

// spoil overwrites all lists of a library, their spare room too.
func spoil(lib *api.Library) {
	fillUp(lib.Entries, api.Entry{Name: "spoilt", At: -7})
	fillUp(lib.At, -7)
	fillUp(lib.Names, "spoilt")
	for _, list := range [][][]string{lib.Defines, lib.Needs} {
		for _, names := range list {
			fillUp(names, "spoilt")
		}
	}
}

// fillUp overwrites a list and its spare room.
func fillUp[T any](list []T, x T) {
	list = list[:cap(list)]
	for i := range list {
		list[i] = x
	}
}

// wantApart: does overwriting one list of names of a library leave the others?
func wantApart(t *testing.T, lib api.Library) {
	t.Helper()
	var all [][]string
	all = append(all, lib.Names)
	all = append(all, lib.Defines...)
	all = append(all, lib.Needs...)
	for i, one := range all {
		before := copyLists(all)
		fillUp(one, fmt.Sprint("mark ", i))
		for k, other := range all {
			if k != i && !slices.Equal(other, before[k]) {
				t.Errorf("18.2: lists %d and %d share memory", i, k)
			}
		}
	}
}
