package pairs_test

import (
	"slices"
	"testing"

	"shelf/pairs"
)

// Pairs stand in the order in which they were added, equal ones too, whatever their types.
func TestAdd(t *testing.T) {
	var l pairs.List[string, int]
	l.Add("f", 1)
	l.Add("g", 0)
	l.Add("f", 1)
	if want := (pairs.List[string, int]{{"f", 1}, {"g", 0}, {"f", 1}}); !slices.Equal(l, want) {
		t.Errorf("%v, want %v", l, want)
	}
	var other pairs.List[bool, [2]byte]
	other.Add(true, [2]byte{1, 2})
	if want := (pairs.List[bool, [2]byte]{{true, [2]byte{1, 2}}}); !slices.Equal(other, want) {
		t.Errorf("%v, want %v", other, want)
	}
}

// The left values are a list of its own: neither changes the other.
func TestLefts(t *testing.T) {
	var l pairs.List[string, int]
	if lefts := l.Lefts(); len(lefts) != 0 {
		t.Errorf("no pairs have %q", lefts)
	}
	l.Add("f", 1)
	l.Add("g", 2)
	lefts := l.Lefts()
	if !slices.Equal(lefts, []string{"f", "g"}) {
		t.Errorf("%q", lefts)
	}
	lefts[0] = "x"
	l.Add("h", 3)
	if l[0].Left != "f" || !slices.Equal(lefts, []string{"x", "g"}) {
		t.Errorf("%v and %q share memory", l, lefts)
	}
}
