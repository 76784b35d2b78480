package link_test

import (
	"fmt"
	"math"
	"slices"
	"strings"
	"testing"

	"shelf/api"
	"shelf/link"
)

// wantSearch: from the link that is written as parse reads it Search with number 5 comes to this one, and changes nothing that it is handed.
func wantSearch(t *testing.T, lib api.Library, from, want string) {
	t.Helper()
	st := parse(from)
	before, libBefore := copyLink(st), copyLibrary(lib)
	what := fmt.Sprintf("%+v from %s", lib, from)
	wantLink(t, what, link.Search(lib, 5, st), parse(want))
	wantLink(t, what+": what was handed in", st, before)
	if !sameLibrary(lib, libBefore) {
		t.Errorf("%s: the library became %+v", what, lib)
	}
}

// 18.3 (a): an entry whose name is not wanted does not pull: not one that is defined, needed by nobody, or in another spelling.
func TestNotWanted(t *testing.T) {
	lib := library("f:8 g:70", "8 70", "f,g", "x,y")
	for _, from := range []string{"; ; ", "f g; ; ", "f; x y; ", "; F ff f.; 5:1", "; x; 5:8 5:70", "g; h; 4:8"} {
		wantSearch(t, lib, from, from)
	}
	wantSearch(t, lib, "; f; ", "f; x; 5:8")
	wantSearch(t, lib, "; g; ", "g; y; 5:70")
	for _, st := range []api.Link{{Wanted: []string{""}}, {Wanted: []string{"f\x00", " f", "f "}}} {
		wantLink(t, "18.3", link.Search(lib, 5, st), st)
	}
	empty := library(":8", "8", "", "")
	empty.Defines = [][]string{{""}}
	wantLink(t, "18.3: the empty name is a name", link.Search(empty, 0, api.Link{Wanted: []string{"", "a", ""}}), api.Link{Defined: []string{""}, Wanted: []string{"a"}, Pulled: []api.Place{{Lib: 0, At: 8}}})
}

// 18.3 (b): an entry whose place is none of At does not pull, and hinders no other one.
func TestPlaceOfNone(t *testing.T) {
	wantSearch(t, library("f:9", "8", "f", "x"), "; f; ", "; f; ")
	wantSearch(t, library("f:0 f:-8 f:7", "8", "f", "x"), "; f; ", "; f; ")
	wantSearch(t, library("f:1", "", "f", "x"), "; f; ", "; f; ")
	wantSearch(t, library("f:0", "8", "f", "x"), "; f; ", "; f; ")
	wantSearch(t, library("f:9 f:8", "8", "f", "x"), "; f; ", "f; x; 5:8")
	wantSearch(t, library("f:8 f:9", "8", "f", "x"), "; f; ", "f; x; 5:8")
	wantSearch(t, library("f:-8 g:0", "-8 0", "f,g", "g,"), "; f; ", "f g; ; 5:-8 5:0")
	far := library("f:9223372036854775807 g:-9223372036854775808", "-9223372036854775808 9223372036854775807", "g,f", ",g")
	wantSearch(t, far, "; f; ", "f g; ; 5:9223372036854775807 5:-9223372036854775808")
}

// 18.3 (b): of several elements of At that are the place the first one is meant.
func TestPlaceTwice(t *testing.T) {
	wantSearch(t, library("g:8", "8 8", "f,g", "x,y"), "; g; ", "f; g x; 5:8")
	wantSearch(t, library("f:8 g:8", "8 8", "f,g", "g,"), "; f; ", "f; g; 5:8")
	wantSearch(t, library("f:8", "1 8 2 8 8", "a,f,b,g,h", "a,x,b,g,h"), "; f; ", "f; x; 5:8")
	wantSearch(t, library("f:8", "8 70 8", "f,g,h", ",,"), "; f; ", "f; ; 5:8")
}

// 18.3 (c): a place that was pulled in already under this number; under another one it was another member.
func TestPulledAlready(t *testing.T) {
	lib := library("f:8 g:70", "8 70", "f,g", "g,")
	wantSearch(t, lib, "; f; 5:8", "; f; 5:8")
	wantSearch(t, lib, "; f g; 5:8", "g; f; 5:8 5:70")
	wantSearch(t, lib, "; f; 5:70", "f; g; 5:70 5:8")
	wantSearch(t, lib, "; f; 4:8 6:8 -5:8 5:80 8:5", "f g; ; 4:8 6:8 -5:8 5:80 8:5 5:8 5:70")
	wantSearch(t, lib, "; f; 5:8 5:8 4:8", "; f; 5:8 5:8 4:8")
	wantSearch(t, lib, "; f; 4:70 4:8", "f g; ; 4:70 4:8 5:8 5:70")
	// two entries of one member: the second one finds it pulled in, though its name is wanted still
	wantSearch(t, library("f:8 g:8", "8", "f", ""), "; f g; ", "f; g; 5:8")
	wantSearch(t, library("f:8 f:8", "8", "", ""), "; f; ", "; f; 5:8")
}

// 18.3: lists that are shorter than At, or longer.
func TestShortLists(t *testing.T) {
	full := library("a:1 b:2 c:3", "1 2 3", "a,b,c", "b,c,d")
	wants := []string{"; a b c d; 5:1 5:2 5:3", "a; b c d; 5:1 5:2 5:3", "a b; c d; 5:1 5:2 5:3", "a b c; d; 5:1 5:2 5:3"}
	for n, want := range wants {
		lib := copyLibrary(full)
		lib.Defines = lib.Defines[:n]
		wantSearch(t, lib, "; a; ", want)
		if n == 0 {
			lib.Defines = nil
			wantSearch(t, lib, "; a; ", want)
		}
	}
	for n, want := range []string{"a; ; 5:1", "a b; ; 5:1 5:2", "a b c; ; 5:1 5:2 5:3", "a b c; d; 5:1 5:2 5:3"} {
		lib := copyLibrary(full)
		lib.Needs = lib.Needs[:n]
		wantSearch(t, lib, "; a; ", want)
		if n == 0 {
			lib.Needs = nil
			wantSearch(t, lib, "; a; ", want)
		}
	}
	wantSearch(t, library("a:1", "1", "a,b,c", "x,y,z"), "; a b; ", "a; b x; 5:1")
	wantSearch(t, api.Library{Entries: entries("a:1"), At: numbers("1")}, "; a; ", "; a; 5:1")
	wantSearch(t, api.Library{Entries: entries("a:1")}, "; a; ", "; a; ")
	wantSearch(t, api.Library{At: numbers("1"), Defines: lists("a"), Needs: lists("b")}, "; a; ", "; a; ")
	wantSearch(t, api.Library{}, "a b a; c d c; 5:1 4:2 5:1", "a b a; c d c; 5:1 4:2 5:1")
}

// 18.3: Names play no part.
func TestNamesPlayNoPart(t *testing.T) {
	for _, names := range [][]string{nil, {"f"}, words("1.o 2.o 3.o"), {"", "", "", "", ""}} {
		lib := shelfL()
		lib.Names = names
		wantSearch(t, lib, "; f; ", "f h g; x; 5:8 5:140 5:70")
	}
}

// 18.3, 2: what a member defines.
func TestDefined(t *testing.T) {
	one := func(defines string) api.Library { return library("f:8", "8", defines, "") }
	wantSearch(t, one("f f"), "; f; ", "f; ; 5:8")
	wantSearch(t, one("g f g h g"), "; f; ", "g f h; ; 5:8")
	wantSearch(t, one("b f a"), "a c; f; ", "a c b f; ; 5:8")
	wantSearch(t, one("f g"), "g f g; f; ", "g f g; ; 5:8")
	// every occurrence leaves Wanted, wherever it stands; the others stay as they were
	wantSearch(t, one("f"), "; f f; ", "f; ; 5:8")
	wantSearch(t, one("f"), "; y f z f y f; ", "f; y z y; 5:8")
	wantSearch(t, one("f g"), "; g y f g f z g; ", "f g; y z; 5:8")
	wantSearch(t, one("g"), "; g f g; ", "g; f; 5:8")
	// a name that is both defined and wanted pulls as well, and leaves Wanted alone
	wantSearch(t, one("f"), "f; f y; ", "f; y; 5:8")
	wantSearch(t, one("g"), "f y f; f y f; ", "f y f g; f y f; 5:8")
	wantSearch(t, one(""), "f; f f; ", "f; f f; 5:8")
}

// 18.3, 3: what a member needs.
func TestNeeded(t *testing.T) {
	one := func(needs string) api.Library { return library("f:8", "8", "f", needs) }
	wantSearch(t, one("b a"), "; c f d; ", "f; c d b a; 5:8")
	wantSearch(t, one("n n m n"), "; f; ", "f; n m; 5:8")
	wantSearch(t, one("x y"), "x; f; ", "x f; y; 5:8")
	wantSearch(t, one("x y"), "; y f; ", "f; y x; 5:8")
	wantSearch(t, one("y"), "; y f y; ", "f; y y; 5:8")
	wantSearch(t, one("f f"), "; f; ", "f; ; 5:8")
	wantSearch(t, one("y"), "y; y f; ", "y f; y; 5:8")
	// what it needs is asked behind what it defines
	wantSearch(t, library("f:8", "8", "f g h", "h g x f"), "; f; ", "f g h; x; 5:8")
	wantSearch(t, library("f:8", "8", "g", "f g"), "; f; ", "g; f; 5:8")
	// what has left Wanted is defined, and so is not wanted again
	wantSearch(t, library("f:8 g:9 h:10", "8 9 10", "f,g,h", "g,h f,g f"), "; f; ", "f g h; ; 5:8 5:9 5:10")
}

// 18.3: the first entry that is asked wins; a name that its member does not define is wanted on.
func TestTwoDefiners(t *testing.T) {
	wantSearch(t, library("f:8 f:70", "8 70", "f,f g", ","), "; f g; ", "f; g; 5:8")
	wantSearch(t, library("f:70 f:8", "8 70", "f,f g", ","), "; f g; ", "f g; ; 5:70")
	wantSearch(t, library("f:8 f:70 f:90", "8 70 90", ",f,f", ",,"), "; f; ", "f; ; 5:8 5:70")
	wantSearch(t, library("f:8 f:70 f:90", "8 70 90", ",,", "a,b,c"), "; f; ", "; f a b c; 5:8 5:70 5:90")
	wantSearch(t, library("g:70 f:8 g:90", "8 70 90", "f,g,g", "g,,"), "; f; ", "f g; ; 5:8 5:90")
}

// 18.4: each entry is asked with what those ahead of it have pulled in, and behind a pull the pass goes on with the next entry.
func TestPass(t *testing.T) {
	wantSearch(t, library("a:1 b:2 c:3", "1 2 3", "a,b,c", "b,c,"), "; a; ", "a b c; ; 5:1 5:2 5:3")
	wantSearch(t, library("c:3 b:2 a:1", "1 2 3", "a,b,c", "b,c,"), "; a; ", "a b c; ; 5:1 5:2 5:3")
	wantSearch(t, library("x:1 a:2 b:3", "1 2 3", "x,a,b", ",x b,"), "; a; ", "a b x; ; 5:2 5:3 5:1")
	wantSearch(t, library("x:1 y:2 a:3 b:4", "1 2 3 4", "x,y,a,b", ",x,y,"), "; a; ", "a y x; ; 5:3 5:2 5:1")
	// an entry whose name has been defined by one ahead of it in the same pass
	wantSearch(t, library("a:1 b:2", "1 2", "a b,b", ","), "; b a; ", "a b; ; 5:1")
	wantSearch(t, library("b:2 a:1", "1 2", "a b,b", ","), "; b a; ", "b a; ; 5:2 5:1")
}

// 18.4: what was there keeps its order, and nothing else is changed in it.
func TestOrderIsKept(t *testing.T) {
	lib := library("c:1 a:2", "1 2", "c d,a", "z a,y")
	wantSearch(t, lib, "z a b z; a c q a r; 7:7 1:1 7:7", "z a b z c d; q r y; 7:7 1:1 7:7 5:1 5:2")
	wantSearch(t, lib, "q q; q q; 5:5", "q q; q q; 5:5")
	wantSearch(t, lib, "d; c; ", "d c a; z y; 5:1 5:2")
}

// 18.3: the number may be any.
func TestAnyNumber(t *testing.T) {
	for _, n := range []int{math.MinInt, -1, 0, 1, 8, 1 << 40, math.MaxInt} {
		st := api.Link{Wanted: words("f"), Pulled: []api.Place{{Lib: n ^ 1, At: 8}}}
		want := parse("f h g; x; ")
		want.Pulled = []api.Place{{Lib: n ^ 1, At: 8}, {Lib: n, At: 8}, {Lib: n, At: 140}, {Lib: n, At: 70}}
		wantLink(t, fmt.Sprintf("18.3: number %d", n), link.Search(shelfL(), n, st), want)
		st.Pulled[0].Lib = n
		wantLink(t, fmt.Sprintf("18.3: number %d, pulled in already", n), link.Search(shelfL(), n, st), st)
	}
}

// chain is a library of n members, each of which needs the next one's name; the entries stand in order, or the other way round.
func chain(n int, back bool) api.Library {
	var lib api.Library
	for i := range n {
		lib.Entries = append(lib.Entries, api.Entry{Name: fmt.Sprint("n", i), At: 8 + 60*i})
		lib.At = append(lib.At, 8+60*i)
		lib.Defines = append(lib.Defines, []string{fmt.Sprint("n", i)})
		lib.Needs = append(lib.Needs, []string{fmt.Sprint("n", i+1)})
	}
	if back {
		slices.Reverse(lib.Entries)
	}
	return lib
}

// 18.4: one pass, or as many as there are members.
func TestManyPasses(t *testing.T) {
	for _, n := range []int{1, 2, 3, 10, 1000} {
		for _, back := range []bool{false, true} {
			got := link.Search(chain(n, back), 3, api.Link{Wanted: words("n0")})
			if len(got.Pulled) != n || len(got.Defined) != n || !slices.Equal(got.Wanted, []string{fmt.Sprint("n", n)}) {
				t.Fatalf("18.4: a chain of %d: %d pulled, %d defined, wanted %q", n, len(got.Pulled), len(got.Defined), got.Wanted)
			}
			for i := range n {
				if got.Pulled[i] != (api.Place{Lib: 3, At: 8 + 60*i}) || got.Defined[i] != fmt.Sprint("n", i) {
					t.Fatalf("18.4: a chain of %d: pulled %v, defined %q at %d", n, got.Pulled[i], got.Defined[i], i)
				}
			}
		}
	}
}

// 18.3: very many names that are wanted, and each leaves when its time has come.
func TestManyNames(t *testing.T) {
	const n = 20000
	lib := chain(n, false)
	lib.Needs = nil
	st := api.Link{}
	for i := range n {
		st.Wanted = append(st.Wanted, fmt.Sprint("n", i), "other", fmt.Sprint("n", i))
	}
	got := link.Search(lib, 0, st)
	if len(got.Pulled) != n || len(got.Defined) != n || strings.Join(got.Wanted, "") != strings.Repeat("other", n) {
		t.Errorf("18.3: %d pulled, %d defined, %d wanted", len(got.Pulled), len(got.Defined), len(got.Wanted))
	}
}
