package link_test

import (
	"fmt"
	"slices"
	"strconv"
	"strings"
	"testing"

	"shelf/api"
)

// words are the words of a text between blanks.
func words(s string) []string { return strings.Fields(s) }

// lists are lists of words, parted by commas.
func lists(s string) [][]string {
	var out [][]string
	for _, part := range strings.Split(s, ",") {
		out = append(out, words(part))
	}
	return out
}

// numbers are the numbers of a text between blanks.
func numbers(s string) []int {
	var out []int
	for _, word := range words(s) {
		n, err := strconv.Atoi(word)
		if err != nil {
			panic(err)
		}
		out = append(out, n)
	}
	return out
}

// entries are pairs that are written as name:place.
func entries(s string) []api.Entry {
	var out []api.Entry
	for _, word := range words(s) {
		name, at, _ := strings.Cut(word, ":")
		out = append(out, api.Entry{Name: name, At: numbers(at)[0]})
	}
	return out
}

// library is one of entries like name:place, places, and lists of words parted by commas. Its members have no names: they play no part in a search.
func library(pairs, at, defines, needs string) api.Library {
	return api.Library{Entries: entries(pairs), At: numbers(at), Defines: lists(defines), Needs: lists(needs)}
}

// parse is a link that is written as: defined names; wanted names; places like number:place.
func parse(s string) api.Link {
	part := strings.Split(s, ";")
	if len(part) != 3 {
		panic(s)
	}
	st := api.Link{Defined: words(part[0]), Wanted: words(part[1])}
	for _, word := range words(part[2]) {
		lib, at, _ := strings.Cut(word, ":")
		st.Pulled = append(st.Pulled, api.Place{Lib: numbers(lib)[0], At: numbers(at)[0]})
	}
	return st
}

func sameLink(x, y api.Link) bool {
	return slices.Equal(x.Defined, y.Defined) && slices.Equal(x.Wanted, y.Wanted) && slices.Equal(x.Pulled, y.Pulled)
}

func sameLists(x, y [][]string) bool {
	return slices.EqualFunc(x, y, func(a, b []string) bool { return slices.Equal(a, b) })
}

func sameLibrary(x, y api.Library) bool {
	return slices.Equal(x.Entries, y.Entries) && slices.Equal(x.At, y.At) && slices.Equal(x.Names, y.Names) && sameLists(x.Defines, y.Defines) && sameLists(x.Needs, y.Needs)
}

// told is a link in a line.
func told(st api.Link) string { return fmt.Sprintf("%q; %q; %v", st.Defined, st.Wanted, st.Pulled) }

func wantLink(t *testing.T, what string, got, want api.Link) {
	t.Helper()
	if !sameLink(got, want) {
		t.Errorf("%s:\n got %s\nwant %s", what, told(got), told(want))
	}
}

// copyLink is a link in memory of its own.
func copyLink(st api.Link) api.Link {
	return api.Link{Defined: slices.Clone(st.Defined), Wanted: slices.Clone(st.Wanted), Pulled: slices.Clone(st.Pulled)}
}

func copyLists(list [][]string) [][]string {
	out := make([][]string, len(list))
	for i, x := range list {
		out[i] = slices.Clone(x)
	}
	return out
}

// copyLibrary is a library in memory of its own.
func copyLibrary(l api.Library) api.Library {
	return api.Library{Entries: slices.Clone(l.Entries), At: slices.Clone(l.At), Names: slices.Clone(l.Names), Defines: copyLists(l.Defines), Needs: copyLists(l.Needs)}
}

func copyLibraries(libs []api.Library) []api.Library {
	out := make([]api.Library, len(libs))
	for i, l := range libs {
		out[i] = copyLibrary(l)
	}
	return out
}
