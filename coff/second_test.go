package coff_test

import (
	"math"
	"slices"
	"testing"

	"shelf/api"
)

// upTo are n places, the first one at 0.
func upTo(n int) []int {
	at := make([]int, n)
	for i := range at {
		at[i] = i
	}
	return at
}

// permutations are all orders of the pairs.
func permutations(l []api.Entry) [][]api.Entry {
	if len(l) < 2 {
		return [][]api.Entry{l}
	}
	var all [][]api.Entry
	for i := range l {
		rest := slices.Delete(slices.Clone(l), i, i+1)
		for _, p := range permutations(rest) {
			all = append(all, append([]api.Entry{l[i]}, p...))
		}
	}
	return all
}

// 23.2, 23.3: the pairs stand in order, in whatever order they are given, and each as often as it is given.
func TestSecondOrders(t *testing.T) {
	at := ats(8, 70, 900)
	want := second(at, []int{3, 1, 1, 2, 3}, "a", "ab", "b", "b", "b")
	for _, l := range permutations(list(pair("a", 900), pair("ab", 8), pair("b", 8), pair("b", 70), pair("b", 900))) {
		wantSecond(t, at, l, want)
	}
	twice := second(at, []int{2, 1, 1, 3}, "a", "b", "b", "b")
	for _, l := range permutations(list(pair("a", 70), pair("b", 8), pair("b", 8), pair("b", 900))) {
		wantSecond(t, at, l, twice)
	}
}

// 23.3: names are in order by their bytes, and a name ahead of all that it begins.
func TestSecondNames(t *testing.T) {
	at := ats(8)
	inOrder := []string{"\x01", "\n", " ", "/", "//", "A", "A\x01", "A ", "AA", "B", "_", "a", "a.o", "aa", "ab", "b", "\x7f", "\x80", "é", "ü", "\xff", "\xff\xff"}
	var l []api.Entry
	var numbers []int
	for _, name := range inOrder {
		l = append(l, pair(name, 8))
		numbers = append(numbers, 1)
	}
	want := second(at, numbers, inOrder...)
	wantSecond(t, at, l, want)
	slices.Reverse(l)
	wantSecond(t, at, l, want)
}

// 23.2: numbers of more than one byte stand with the lowest first.
func TestSecondNumbers(t *testing.T) {
	wantSecond(t, ats(0x01020304, 0xfffefdfc), nil, hex("02 00 00 00, 04 03 02 01, fc fd fe ff, 00 00 00 00"))
	wantSecond(t, ats(0, 4294967295), nil, hex("02 00 00 00, 00 00 00 00, ff ff ff ff, 00 00 00 00"))
	at := upTo(65535)
	var l []api.Entry
	var numbers []int
	var names []string
	for _, number := range []int{1, 255, 256, 257, 65534, 65535} {
		l = append(l, pair("f", number-1))
		numbers, names = append(numbers, number), append(names, "f")
	}
	wantSecond(t, at, l, second(at, numbers, names...))
	l, numbers, names = nil, nil, nil
	for range 70000 {
		l, numbers, names = append(l, pair("f", 300)), append(numbers, 2), append(names, "f")
	}
	wantSecond(t, ats(30, 300), l, second(ats(30, 300), numbers, names...))
}

// 23.3: no place is below 0 or not above the one ahead of it.
func TestSecondPlaces(t *testing.T) {
	for _, at := range [][]int{{-1}, {math.MinInt}, {-1, 8}, {-2, -1}, {8, -1}, {0, 0}, {8, 7}, {8, 8}, {1, 2, 2}, {1, 3, 2}, {3, 1, 2}, {1, 2, 3, 0}, {0, math.MaxInt, math.MinInt}, {math.MaxInt, math.MinInt}, {0, math.MaxInt, -1}, {math.MinInt, math.MaxInt}} {
		wantNoSecond(t, at, nil, api.ErrRange)
	}
	for _, bad := range []int{0, 1, 30000, 65533} {
		at := upTo(65535)
		at[bad+1] = at[bad]
		wantNoSecond(t, at, nil, api.ErrRange)
	}
}

// 23.3: there are no more than 65535 places, and each is below Wide32.
func TestSecondFar(t *testing.T) {
	for _, at := range [][]int{{4294967296}, {math.MaxInt}, {0, 4294967296}, {4294967295, 4294967296}, {4294967296, 4294967297}, upTo(65536), upTo(70000), upTo(131072)} {
		wantNoSecond(t, at, nil, api.ErrFar)
	}
	wantSecond(t, ats(4294967295), list(pair("f", 4294967295)), second(ats(4294967295), []int{1}, "f"))
}

// 23.3: each pair has a good name and the place of a member.
func TestSecondPairs(t *testing.T) {
	at := ats(8, 70, 900)
	for _, name := range []string{"", "\x00", "a\x00", "\x00a", "a\x00b"} {
		wantNoSecond(t, at, list(pair(name, 8)), api.ErrName)
		wantNoSecond(t, at, list(pair("a", 8), pair("b", 70), pair(name, 900)), api.ErrName)
	}
	for _, place := range []int{-1, 0, 7, 9, 69, 71, 899, 901, 1, 2, 3, 4294967296 + 8, math.MaxInt, math.MinInt} {
		wantNoSecond(t, at, list(pair("f", place)), api.ErrIndex)
		wantNoSecond(t, at, list(pair("a", 8), pair("b", 70), pair("f", place)), api.ErrIndex)
	}
	wantNoSecond(t, nil, list(pair("f", 0)), api.ErrIndex)
	wantNoSecond(t, nil, list(pair("", 0)), api.ErrName)
}

// 23.3: where several refusals apply the first one is answered.
func TestSecondRefusalsInOrder(t *testing.T) {
	wantNoSecond(t, ats(4294967296, 5), nil, api.ErrRange)
	wantNoSecond(t, ats(-1, 4294967296), nil, api.ErrRange)
	many := upTo(65536)
	many[0] = -1
	wantNoSecond(t, many, nil, api.ErrRange)
	many = upTo(65537)
	many[65536] = 0
	wantNoSecond(t, many, nil, api.ErrRange)
	for _, bad := range [][]api.Entry{list(pair("", 8)), list(pair("f", 9))} {
		wantNoSecond(t, ats(9, 8), bad, api.ErrRange)
		wantNoSecond(t, ats(-1), bad, api.ErrRange)
		wantNoSecond(t, ats(4294967296), bad, api.ErrFar)
		wantNoSecond(t, upTo(65536), list(pair(bad[0].Name, -1)), api.ErrFar)
	}
	wantNoSecond(t, ats(8), list(pair("", 9)), api.ErrName)
	wantNoSecond(t, ats(8), list(pair("f", 9), pair("", 8)), api.ErrIndex)
	wantNoSecond(t, ats(8), list(pair("", 8), pair("f", 9)), api.ErrName)
	wantNoSecond(t, ats(8), list(pair("z", 9), pair("a\x00", 8)), api.ErrIndex)
	wantNoSecond(t, ats(8), list(pair("z", 8), pair("y\x00", 8), pair("a", 9)), api.ErrName)
}
