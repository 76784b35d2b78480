package link_test

import (
	"fmt"
	"slices"
	"testing"

	"shelf/api"
	"shelf/link"
)

// roomy is a list with three more elements behind it, and those elements.
func roomy[T any](list []T, x T) []T {
	return append(slices.Clone(list), x, x, x)[:len(list)]
}

// rest is a list with its spare room.
func rest[T any](list []T) []T { return slices.Clone(list[:cap(list)]) }

// roomyLink is a link whose lists have spare room.
func roomyLink(st api.Link) api.Link {
	return api.Link{Defined: roomy(st.Defined, "spare"), Wanted: roomy(st.Wanted, "spare"), Pulled: roomy(st.Pulled, api.Place{Lib: -3, At: -3})}
}

// restLink is a link with its lists' spare room.
func restLink(st api.Link) api.Link {
	return api.Link{Defined: rest(st.Defined), Wanted: rest(st.Wanted), Pulled: rest(st.Pulled)}
}

// roomyLibrary is a library whose lists have spare room, the lists in its lists too.
func roomyLibrary(lib api.Library) api.Library {
	out := api.Library{Entries: roomy(lib.Entries, entries("spare:1")[0]), At: roomy(lib.At, 99), Names: roomy(lib.Names, "spare")}
	for _, x := range lib.Defines {
		out.Defines = append(out.Defines, roomy(x, "spare"))
	}
	for _, x := range lib.Needs {
		out.Needs = append(out.Needs, roomy(x, "spare"))
	}
	out.Defines, out.Needs = roomy(out.Defines, words("spare")), roomy(out.Needs, words("spare"))
	return out
}

// restLibrary is a library with its lists' spare room.
func restLibrary(lib api.Library) api.Library {
	out := api.Library{Entries: rest(lib.Entries), At: rest(lib.At), Names: rest(lib.Names)}
	for _, x := range rest(lib.Defines) {
		out.Defines = append(out.Defines, rest(x))
	}
	for _, x := range rest(lib.Needs) {
		out.Needs = append(out.Needs, rest(x))
	}
	return out
}

// spoilLink overwrites a link's lists and their spare room.
func spoilLink(st api.Link) {
	fillUp(st.Defined, "spoilt")
	fillUp(st.Wanted, "spoilt")
	fillUp(st.Pulled, api.Place{Lib: -7, At: -7})
}

// scenes are links from which nothing, something and all is pulled in.
func scenes() []api.Link {
	var list []api.Link
	for _, s := range []string{"; ; ", "; f; ", "; g f; ", "h; f; ", "q r; s t; 9:9 8:8", "f g h x; ; 0:8", "f f; f f; 0:8 0:70", "; f f y; 0:8", "; z z; ", "; f; 0:8"} {
		list = append(list, parse(s))
	}
	return list
}

// ways are Search and Group of the chapter's library, as one function each.
func ways() map[string]func(lib api.Library, st api.Link) api.Link {
	return map[string]func(lib api.Library, st api.Link) api.Link{
		"Search": func(lib api.Library, st api.Link) api.Link { return link.Search(lib, 0, st) },
		"Group":  func(lib api.Library, st api.Link) api.Link { return link.Group([]api.Library{lib, lib}, st) },
		"Group of none": func(_ api.Library, st api.Link) api.Link {
			return link.Group(nil, st)
		},
	}
}

// 18.4, 18.5, R4: what is handed in is as it was, its spare room included; and neither it nor an earlier answer changes with the answer.
func TestNewMemory(t *testing.T) {
	for name, way := range ways() {
		for _, scene := range scenes() {
			what := fmt.Sprintf("%s from %s", name, told(scene))
			lib, st := roomyLibrary(shelfL()), roomyLink(scene)
			libBefore, before := restLibrary(lib), restLink(st)
			first := way(lib, st)
			want := copyLink(first)
			second := way(lib, st)
			spoilLink(second)
			if !sameLibrary(restLibrary(lib), libBefore) {
				t.Errorf("%s: the library is %+v now", what, restLibrary(lib))
			}
			wantLink(t, what+": the link that was handed in", restLink(st), before)
			wantLink(t, what+": an earlier answer", first, want)
			spoilLink(st)
			spoil(&lib)
			wantLink(t, what+": with other arguments", first, want)
			wantApartLink(t, what, first)
		}
	}
}

// wantApartLink: does overwriting one list of a link leave the others?
func wantApartLink(t *testing.T, what string, st api.Link) {
	t.Helper()
	wanted := slices.Clone(st.Wanted)
	fillUp(st.Defined, "mark")
	if !slices.Equal(st.Wanted, wanted) {
		t.Errorf("%s: Defined and Wanted share memory", what)
	}
	defined := slices.Clone(st.Defined)
	fillUp(st.Wanted, "other mark")
	if !slices.Equal(st.Defined, defined) {
		t.Errorf("%s: Wanted and Defined share memory", what)
	}
}

// R2: nothing is kept from call to call.
func TestNothingKept(t *testing.T) {
	for name, way := range ways() {
		for _, scene := range scenes() {
			first := way(shelfL(), scene)
			link.Search(library("f:70 x:9", "70 9", "g,z", "q,"), 0, parse("a; f x; 0:9"))
			wantLink(t, name+" from "+told(scene), way(shelfL(), scene), first)
		}
	}
}
