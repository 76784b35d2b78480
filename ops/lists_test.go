package ops

import (
	"slices"
	"testing"
)

// Lists of anything are cut and joined, whatever they hold.
func TestListsOfAnything(t *testing.T) {
	numbers, words := []int{5, 6, 7, 8}, []string{"p", "q", "r"}
	if l := without(numbers, []int{3, 0}); !slices.Equal(l, []int{6, 7}) {
		t.Errorf("%v", l)
	}
	if l := without(words, nil); !slices.Equal(l, words) {
		t.Errorf("%q", l)
	}
	if l := only(numbers, []int{3, 0}); !slices.Equal(l, []int{8, 5}) {
		t.Errorf("%v", l)
	}
	if l := only(words, nil); len(l) != 0 {
		t.Errorf("%q", l)
	}
	for place, want := range []string{"xypqr", "pxyqr", "pqxyr", "pqrxy"} {
		l := ""
		for _, word := range withBlock(words, place, []string{"x", "y"}) {
			l += word
		}
		if l != want {
			t.Errorf("%d: %s, want %s", place, l, want)
		}
	}
	if l := withBlock(numbers, 2, nil); !slices.Equal(l, numbers) {
		t.Errorf("%v", l)
	}
}
