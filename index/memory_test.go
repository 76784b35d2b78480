package index_test

import (
	"slices"
	"strings"
	"testing"

	"shelf/api"
	"shelf/index"
)

// R4: lists that are handed in are as they were, their spare room too, whether they are taken or refused.
func TestListsAsTheyWere(t *testing.T) {
	for _, form := range append(forms(), noForms()...) {
		for _, l := range [][]api.Entry{list("go", 300, "f", 8, "f", 7, "spare", 1), list("go", 300, "", 8, "f", 7, "spare", 1), list("go", -1, "f", wide32, "f", 7, "spare", 1)} {
			was := slices.Clone(l)
			names := namesOf(l)
			wasNames := slices.Clone(names)
			index.Encode(form, l[:3])
			index.Size(form, names[:3])
			if !slices.Equal(l, was) || !slices.Equal(names, wasNames) {
				t.Errorf("form %d: %s is %s by Encode, %q by Size", form, few(was), few(l), names)
			}
		}
	}
}

// R4: what was answered does not change with what was handed in, nor by another call.
func TestAnswersOfTheirOwn(t *testing.T) {
	for _, form := range forms() {
		l := list("go", 300, "f", 8)
		b, _ := index.Encode(form, l)
		was := strings.Clone(b)
		l[0] = api.Entry{Name: "xy", At: 1}
		index.Encode(form, l)
		if b != was {
			t.Errorf("form %d: what Encode answered has changed", form)
		}
		first, _ := index.Decode(form, b)
		second, _ := index.Decode(form, b)
		wide := first[:cap(first)]
		for i := range wide {
			wide[i] = api.Entry{Name: "z", At: 77}
		}
		if want := list("go", 300, "f", 8); !slices.Equal(second, want) {
			t.Errorf("form %d: two lists of Decode share memory", form)
		}
		wantDecode(t, form, b, list("go", 300, "f", 8))
	}
}

// R2: the same answer whatever was asked before.
func TestAgain(t *testing.T) {
	for range 3 {
		for _, form := range forms() {
			wantTaken(t, form, list("go", 300, "f", 8))
			wantNoEncode(t, form, list("go", 300, "f", -1), api.ErrFar)
			wantNoDecode(t, form, "x", api.ErrIndex)
		}
	}
}

// R1: many names that run into one long one: the strings are not gone through for each, and no name takes memory of its own.
func TestNamesThatRunIntoOne(t *testing.T) {
	const n, length = 1 << 18, 1 << 24
	strs := strings.Repeat("x", length-1) + "\x00"
	numbers := make([]uint32, 0, 2*n+2)
	numbers = append(numbers, 8*n)
	for i := range n {
		numbers = append(numbers, uint32(i*7919%n), uint32(i))
	}
	b := little4(append(numbers, length)...) + strs
	var l []api.Entry
	var e api.Errno
	made := memory(func() { l, e = index.Decode(api.IndexBSD, b) })
	if e != api.OK || len(l) != n || made > 100*n {
		t.Fatalf("%d entries, %d, with %d bytes of memory", len(l), e, made)
	}
	for i, x := range l {
		if x.At != i || len(x.Name) != length-1-i*7919%n {
			t.Fatalf("entry %d is at %d, its name has %d bytes", i, x.At, len(x.Name))
		}
	}
}

// R1: a count that its bytes can tell and data cannot hold takes no memory.
func TestCountsWithoutMemory(t *testing.T) {
	for _, x := range []struct {
		form api.Form
		b    string
	}{
		{api.Index32, big4(1<<32-1) + strings.Repeat("x\x00", 100)},
		{api.Index64, big8(1<<61+1) + strings.Repeat("x\x00", 100)},
		{api.Index64, big8(1<<40) + strings.Repeat("x\x00", 100)},
		{api.IndexBSD, little4(1<<32-8) + strings.Repeat("x\x00", 100)},
		{api.IndexBSD, little4(0, 1<<32-1) + strings.Repeat("x\x00", 100)},
	} {
		if made := memory(func() { wantNoDecode(t, x.form, x.b, api.ErrIndex) }); made > 1<<20 {
			t.Errorf("Decode(%d, %.20q..) takes %d bytes of memory", x.form, x.b, made)
		}
	}
}
