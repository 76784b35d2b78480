package coff_test

import (
	"math"
	"slices"
	"testing"

	"shelf/api"
	"shelf/coff"
)

// 23.4: the places and the pairs, as they stand.
func TestSplit(t *testing.T) {
	wantSplit(t, second(nil, nil), nil, nil)
	wantSplit(t, second(ats(8), nil), ats(8), nil)
	wantSplit(t, second(ats(0, 4294967295), []int{2, 1}, "a", "b"), ats(0, 4294967295), list(pair("a", 4294967295), pair("b", 0)))
	wantSplit(t, second(ats(8, 70, 900), []int{1, 2, 2, 3, 1}, "b", "b", "b", "b", "c"), ats(8, 70, 900),
		list(pair("b", 8), pair("b", 70), pair("b", 70), pair("b", 900), pair("c", 8)))
	wantSplit(t, second(ats(8), []int{1, 1, 1}, "\x01\n", "a/ b", "\xff"), ats(8), list(pair("\x01\n", 8), pair("a/ b", 8), pair("\xff", 8)))
}

// 23.4: data that are cut off anywhere are refused, and so are data with bytes behind.
func TestSplitCut(t *testing.T) {
	for _, data := range []string{two, second(nil, nil), second(ats(8, 9), nil), second(ats(8), []int{1}, "f")} {
		for length := range len(data) {
			wantNoSplit(t, data[:length], api.ErrSecond)
		}
		for _, behind := range []string{"\x00", "\n", "a", "a\x00", "\x00\x00\x00\x00"} {
			wantNoSplit(t, data+behind, api.ErrSecond)
		}
	}
}

// 23.4: counts that are greater than what stands there, however great.
func TestSplitCounts(t *testing.T) {
	for _, count := range []int{1, 2, 3, 255, 65535, 65536, 1 << 24, 1 << 30, 1<<30 + 1, 1 << 31, 1<<31 - 1, 1<<31 + 1, 1<<32 - 2, 1<<32 - 1} {
		wantNoSplit(t, low4(count), api.ErrSecond)
		wantNoSplit(t, low4(count)+low4(0), api.ErrSecond)
		wantNoSplit(t, low4(0)+low4(count), api.ErrSecond)
		wantNoSplit(t, low4(0)+low4(count)+low2(1), api.ErrSecond)
		wantNoSplit(t, low4(1)+low4(8)+low4(count), api.ErrSecond)
		wantNoSplit(t, low4(count)+low4(count)+low4(count), api.ErrSecond)
		if count > 3 {
			wantNoSplit(t, low4(count)+two[4:], api.ErrSecond)
			wantNoSplit(t, two[:12]+low4(count)+two[16:], api.ErrSecond)
		}
	}
	wantNoSplit(t, low4(1)+two[4:], api.ErrSecond)
	wantNoSplit(t, low4(0)+two[4:], api.ErrSecond)
	wantNoSplit(t, two[:12]+low4(2)+two[16:], api.ErrSecond)
	wantNoSplit(t, two[:12]+low4(0)+two[16:], api.ErrSecond)
	wantNoSplit(t, two[:12]+low4(4)+two[16:], api.ErrSecond)
}

// 23.4: each number is one of a place, from 1 on.
func TestSplitNumbers(t *testing.T) {
	at := ats(8, 70)
	for _, number := range []int{0, 3, 4, 255, 256, 257, 65535} {
		wantNoSplit(t, second(at, []int{number}, "f"), api.ErrSecond)
		wantNoSplit(t, second(at, []int{1, number}, "f", "g"), api.ErrSecond)
		wantNoSplit(t, second(at, []int{number, 1}, "f", "g"), api.ErrSecond)
	}
	wantNoSplit(t, second(nil, []int{0}, "f"), api.ErrSecond)
	wantNoSplit(t, second(nil, []int{1}, "f"), api.ErrSecond)
}

// 23.4: each name is good, and has its byte 0.
func TestSplitNames(t *testing.T) {
	at := ats(8)
	wantNoSplit(t, second(at, []int{1}, ""), api.ErrSecond)
	wantNoSplit(t, second(at, []int{1, 1}, "f", ""), api.ErrSecond)
	wantNoSplit(t, second(at, []int{1, 1}, "", "f"), api.ErrSecond)
	wantNoSplit(t, second(at, []int{1, 1}, "f"), api.ErrSecond)
	wantNoSplit(t, second(at, []int{1}, "f", "g"), api.ErrSecond)
	wantNoSplit(t, second(at, []int{1})+"f", api.ErrSecond)
	wantNoSplit(t, second(at, []int{1, 1}, "f")+"g", api.ErrSecond)
	wantSplit(t, second(at, []int{1, 1}, "f", "g"), at, list(pair("f", 8), pair("g", 8)))
}

// 23.4: each place is above the one ahead of it.
func TestSplitPlaces(t *testing.T) {
	for _, at := range [][]int{{8, 8}, {8, 7}, {0, 0}, {8, 9, 9}, {8, 10, 9}, {9, 8, 10}, {4294967295, 0}, {2147483648, 1}, {4294967295, 4294967295}} {
		wantNoSplit(t, second(at, nil), api.ErrSecond)
		wantNoSplit(t, second(at, []int{1}, "f"), api.ErrSecond)
	}
	wantSplit(t, second(ats(1, 2147483648), nil), ats(1, 2147483648), nil)
}

// 23.4: more than 65535 places are read, and the numbers reach the first 65535 of them.
func TestSplitManyPlaces(t *testing.T) {
	at := upTo(70000)
	wantSplit(t, second(at, nil), at, nil)
	wantSplit(t, second(at, []int{65535, 1}, "f", "g"), at, list(pair("f", 65534), pair("g", 0)))
	wantNoSecond(t, at, list(pair("f", 65534), pair("g", 0)), api.ErrFar)
}

// 23.4: pairs that are not in order are refused, but behind all else.
func TestSplitOrder(t *testing.T) {
	at := ats(8, 70)
	unordered := []string{
		second(at, []int{1, 1}, "g", "f"),
		second(at, []int{1, 2}, "g", "f"),
		second(at, []int{2, 1}, "g", "f"),
		second(at, []int{2, 1}, "f", "f"),
		second(at, []int{1, 1}, "ff", "f"),
		second(at, []int{1, 1}, "\x80", "\x7f"),
		second(at, []int{1, 1, 1}, "a", "c", "b"),
		second(at, []int{1, 2, 1}, "a", "a", "a"),
		second(at, []int{1, 1, 1}, "b", "a", "c"),
	}
	for _, data := range unordered {
		wantNoSplit(t, data, api.ErrSorted)
		wantNoSplit(t, data+"\x00", api.ErrSecond)
		wantNoSplit(t, data[:len(data)-1], api.ErrSecond)
		wantNoSplit(t, setByte(data, len(low4(2)), 70), api.ErrSecond)
	}
	wantNoSplit(t, second(at, []int{1, 1, 3}, "g", "f", "h"), api.ErrSecond)
	wantNoSplit(t, second(at, []int{1, 1, 1}, "g", "f", ""), api.ErrSecond)
}

// 23.5: of several pairs of a name the first one has the least place.
func TestFind(t *testing.T) {
	at := ats(8, 70, 900)
	data := second(at, []int{3, 2, 2, 3, 1, 1}, "b", "d", "d", "d", "da", "f")
	for name, place := range map[string]int{"b": 900, "d": 70, "da": 8, "f": 8} {
		wantFind(t, data, name, place, api.OK)
	}
	for _, name := range []string{"", "a", "bb", "c", "b\x00", "d\x00d", "dd", "e", "g", "\xff", "D"} {
		wantFind(t, data, name, 0, api.ErrNone)
	}
	for _, name := range []string{"", "f", "\x00"} {
		wantFind(t, second(nil, nil), name, 0, api.ErrNone)
		wantFind(t, second(at, nil), name, 0, api.ErrNone)
	}
}

// 23.5: the name is found wherever it stands among however many.
func TestFindAmongMany(t *testing.T) {
	for count := range 40 {
		var at, numbers []int
		var names []string
		for i := range count {
			at, numbers = append(at, 100+i), append(numbers, i+1)
			names = append(names, string(rune('!'+2*i)))
		}
		data := second(at, numbers, names...)
		for i, name := range names {
			wantFind(t, data, name, at[i], api.OK)
		}
		for i := range count + 1 {
			wantFind(t, data, string(rune('!'+2*i-1)), 0, api.ErrNone)
		}
	}
	for length := 1; length < 40; length++ {
		for ones := range length + 1 {
			names := append(slices.Repeat([]string{"f"}, ones), slices.Repeat([]string{"g"}, length-ones)...)
			data := second(ats(5, 6), slices.Repeat([]int{1}, length), names...)
			for name, count := range map[string]int{"f": ones, "g": length - ones} {
				if count > 0 {
					wantFind(t, data, name, 5, api.OK)
				} else {
					wantFind(t, data, name, 0, api.ErrNone)
				}
			}
		}
	}
}

// R4: the lists are new memory each time, and share none with each other.
func TestSplitNewMemory(t *testing.T) {
	at, l, _ := coff.Split(two)
	for i := range at[:cap(at)] {
		at[:cap(at)][i] = math.MinInt
	}
	for i := range l[:cap(l)] {
		l[:cap(l)][i] = pair("x", math.MaxInt)
	}
	wantSplit(t, two, ats(100, 200), list(pair("f", 100), pair("go", 100), pair("go", 200)))
}

// R4: Second leaves the spare room of its lists as it is.
func TestSecondLeavesSpareRoom(t *testing.T) {
	l := list(pair("go", 200), pair("f", 100), pair("spare", 1), pair("spare", 2))
	at := ats(100, 200, 300)
	for range 2 {
		if b, e := coff.Second(at[:2], l[:2]); e != api.OK || b != second(ats(100, 200), []int{1, 2}, "f", "go") {
			t.Errorf("% x, %d", b, e)
		}
	}
	if l[0] != pair("go", 200) || l[1] != pair("f", 100) || l[2] != pair("spare", 1) || l[3] != pair("spare", 2) || at[2] != 300 {
		t.Errorf("%v, %v", l, at)
	}
}
