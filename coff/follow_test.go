package coff_test

import (
	"fmt"
	"slices"
	"strings"
	"testing"

	"shelf/api"
	"shelf/coff"
	"shelf/index"
)

// secondOf are the second linker member's data of a whole archive.
func secondOf(t *testing.T, b string) string {
	t.Helper()
	var sizes [2]int
	at := 8
	for i := range sizes {
		if _, err := fmt.Sscanf(b[at+48:at+58], "%d", &sizes[i]); err != nil || b[at:at+2] != "/ " {
			t.Fatalf("no linker member at %d: %.200q", at, b)
		}
		if i == 0 {
			at += 60 + sizes[0] + sizes[0]%2
		}
	}
	return b[at+60 : at+60+sizes[1]]
}

// some are lists of members: none, without symbols, with the same ones, with many.
func some() [][]object {
	all := [][]object{
		nil,
		{plain("a", "")},
		{plain("a", "x"), plain("a", "x"), plain(letters(16), ""), plain(letters(16), "odd")},
		{defining("a", "f")},
		{defining("b", "g", "f", "g"), defining("a", "f"), plain("c", "f"), defining("b", "g", "f", "g")},
		{plain("none", "\x7fELF"), defining(letters(40), "\xff", "\x01", "f f", "/", "\n"), defining("a", "fo", "f", "foo")},
	}
	var many []object
	for i := range 200 {
		many = append(many, defining(fmt.Sprintf("%0*d", i+1, i), fmt.Sprint("s", i*77%200), "common", fmt.Sprint("s", i%20), fmt.Sprint("t", i)))
	}
	return append(all, many)
}

// pairsOf are what the members define, in order.
func pairsOf(l []object, at []int) []api.Entry {
	var all []api.Entry
	for i, x := range l {
		for _, name := range x.syms {
			all = append(all, pair(name, at[i]))
		}
	}
	return putInOrder(all)
}

// wantBack wants that what is built of the members tells them.
func wantBack(t *testing.T, l []object, stamp int) {
	t.Helper()
	b := built(t, membersOf(l), stamp)
	one, two := linkersOf(l, upTo(len(l)))
	at := placesOf(l, len(one), len(two))
	old, _ := linkersOf(l, at)
	wantRead(t, b, parsed(old, stamp, at, membersOf(l)), pairsOf(l, at))
	for i, place := range at {
		if field := b[place : place+16]; len(l[i].Name) < 16 && field != fmt.Sprintf("%-16s", l[i].Name+"/") {
			t.Errorf("at %d stands %q, not %q", place, field, l[i].Name)
		}
	}
}

// 23.10: what is built is read as it was given, with the stamp and the pairs.
func TestThereAndBack(t *testing.T) {
	for _, l := range some() {
		for _, stamp := range []int{0, 1, 999999999999} {
			wantBack(t, l, stamp)
		}
	}
}

// 23.10: and what is read is built again as the same bytes.
func TestBackAndThere(t *testing.T) {
	for _, l := range some() {
		b := built(t, membersOf(l), 77)
		p, _, _, e := coff.Read(b)
		if again, e2 := coff.Build(p.Members, p.Stamp); again != b || e != api.OK || e2 != api.OK {
			t.Errorf("%.300q: %d, %d: %.300q", b, e, e2, again)
		}
	}
}

// wantSameFound wants of both searches in an archive the same.
func wantSameFound(t *testing.T, b, name string) (int, api.Errno) {
	t.Helper()
	p, _, _, e := coff.Read(b)
	if e != api.OK {
		t.Fatalf("Read: %d", e)
	}
	at, e := index.Find(api.Index32, p.Index, name)
	wantFind(t, secondOf(t, b), name, at, e)
	return at, e
}

// 23.11: the binary search finds what the old search finds: of a name that is there the least place, of any other one nothing.
func TestSameFound(t *testing.T) {
	for _, l := range some() {
		b := built(t, membersOf(l), 0)
		one, two := linkersOf(l, upTo(len(l)))
		pairs := pairsOf(l, placesOf(l, len(one), len(two)))
		var there []string
		for i, x := range pairs {
			if i > 0 && pairs[i-1].Name == x.Name {
				continue
			}
			there = append(there, x.Name)
			if at, e := wantSameFound(t, b, x.Name); at != x.At || e != api.OK {
				t.Errorf("%q is found at %d, %d, not at %d", x.Name, at, e, x.At)
			}
		}
		for _, name := range append(near(there), "", "\x00", "zzz", "F", " ", "\xff\xff", "s", "commo") {
			if at, e := wantSameFound(t, b, name); at != 0 || e != api.ErrNone {
				t.Errorf("%q is found at %d, %d, but is not there", name, at, e)
			}
		}
	}
}

// near are names that are not among these but like them.
func near(there []string) []string {
	var all []string
	for _, name := range there[:min(len(there), 30)] {
		for _, other := range []string{name + "\x01", name + "~", name + name, name[1:], name[:len(name)-1], strings.ToUpper(name), name + "\x00"} {
			if !slices.Contains(there, other) {
				all = append(all, other)
			}
		}
	}
	return all
}

// wantParts wants of a second linker member that is written what it was written of, and that it is written again as it is.
func wantParts(t *testing.T, at []int, l []api.Entry) {
	t.Helper()
	data, e := coff.Second(at, l)
	if e != api.OK {
		t.Fatalf("Second(%s, %s): %d", short(at), short(l), e)
	}
	wantSplit(t, data, at, putInOrder(l))
	wantAgain(t, data)
}

func wantAgain(t *testing.T, data string) {
	t.Helper()
	at, l, e := coff.Split(data)
	if e != api.OK {
		t.Fatalf("Split(% .300x): %d", data, e)
	}
	wantSecond(t, at, l, data)
}

// 23.12: Split of what Second wrote, and Second of what Split read.
func TestSplitOfSecond(t *testing.T) {
	wantParts(t, nil, nil)
	wantParts(t, ats(0), nil)
	wantParts(t, ats(0, 4294967295), list(pair("f", 4294967295), pair("f", 0)))
	wantParts(t, ats(8, 70, 900), list(pair("go", 70), pair("f", 900), pair("f", 8), pair("go", 70), pair("\xff", 8), pair("\x01\n /", 900)))
	at := upTo(65535)
	wantParts(t, at, list(pair("z", 65534), pair("f", 256), pair("f", 255), pair("f", 0), pair("g", 40000)))
	for _, p := range permutations(list(pair("a", 1), pair("a", 2), pair("a", 1), pair("b", 0))) {
		wantParts(t, at, p)
	}
	wantAgain(t, second(at, []int{1, 65535, 65535, 7}, "a", "a", "a", "b"))
	wantAgain(t, two)
}

// 23.12: what Split reads has a pair as often, and a place that no pair means, as it stands; more places are not written again.
func TestSecondOfSplit(t *testing.T) {
	wantAgain(t, second(ats(3, 4, 5), []int{2, 2, 2}, "f", "f", "f"))
	wantAgain(t, second(ats(4294967295), nil))
	data := second(upTo(65536), []int{1}, "f")
	at, l, e := coff.Split(data)
	if e != api.OK {
		t.Fatalf("Split: %d", e)
	}
	wantNoSecond(t, at, l, api.ErrFar)
	wantSecond(t, at[:65535], l, second(upTo(65535), []int{1}, "f"))
}
