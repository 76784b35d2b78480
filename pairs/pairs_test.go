package pairs_test

import (
	"slices"
	"testing"

	"shelf/api"
	"shelf/pairs"
)

// Pairs stand in the order in which they were added, equal ones too, whatever their types.
func TestAdd(t *testing.T) {
	var l pairs.List[string, int]
	l.Add("f", 1)
	l.Add("g", 0)
	l.Add("f", 1)
	if want := (pairs.List[string, int]{{"f", 1}, {"g", 0}, {"f", 1}}); !slices.Equal(l, want) {
		t.Errorf("%v, want %v", l, want)
	}
	var other pairs.List[bool, [2]byte]
	other.Add(true, [2]byte{1, 2})
	if want := (pairs.List[bool, [2]byte]{{true, [2]byte{1, 2}}}); !slices.Equal(other, want) {
		t.Errorf("%v, want %v", other, want)
	}
}

// The left values are a list of its own: neither changes the other.
func TestLefts(t *testing.T) {
	var l pairs.List[string, int]
	if lefts := l.Lefts(); len(lefts) != 0 {
		t.Errorf("no pairs have %q", lefts)
	}
	l.Add("f", 1)
	l.Add("g", 2)
	lefts := l.Lefts()
	if !slices.Equal(lefts, []string{"f", "g"}) {
		t.Errorf("%q", lefts)
	}
	lefts[0] = "x"
	l.Add("h", 3)
	if l[0].Left != "f" || !slices.Equal(lefts, []string{"x", "g"}) {
		t.Errorf("%v and %q share memory", l, lefts)
	}
}

// What elements have stands in their order, each with its element's number, also where others have nothing.
func TestNumbered(t *testing.T) {
	letters := func(s string) []rune { return []rune(s) }
	l := pairs.Numbered([]string{"", "ab", "", "a", "cc"}, letters)
	if want := (pairs.List[rune, int]{{'a', 1}, {'b', 1}, {'a', 3}, {'c', 4}, {'c', 4}}); !slices.Equal(l, want) {
		t.Errorf("%v, want %v", l, want)
	}
	for _, empty := range [][]string{nil, {}, {""}, {"", ""}} {
		if l := pairs.Numbered(empty, letters); len(l) != 0 {
			t.Errorf("%q: %v", empty, l)
		}
	}
}

// Each symbol has the place that its number means.
func TestEntries(t *testing.T) {
	symbols := pairs.List[string, int]{{"g", 2}, {"f", 0}, {"g", 0}, {"f", 2}}
	at := []int{8, 70, 900}
	want := []api.Entry{{Name: "g", At: 900}, {Name: "f", At: 8}, {Name: "g", At: 8}, {Name: "f", At: 900}}
	entries := pairs.Entries(symbols, at)
	if !slices.Equal(entries, want) {
		t.Errorf("%v, want %v", entries, want)
	}
	entries[0].Name, entries[0].At = "x", 0
	if again := pairs.Entries(symbols, at); !slices.Equal(again, want) {
		t.Errorf("%v, want %v", again, want)
	}
	for _, places := range [][]int{nil, at} {
		if entries := pairs.Entries(nil, places); len(entries) != 0 {
			t.Errorf("no symbols have %v", entries)
		}
	}
}
