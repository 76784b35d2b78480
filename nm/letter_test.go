package nm_test

import (
	"math"
	"testing"

	"shelf/api"
	"shelf/nm"
)

// letterSections are sections by number: 0 nothing, 1 room, 2 to 9 Flags 0 to 7, 10 and on Flags whose other bits are set, 14 room without Flags.
func letterSections() []api.Section {
	list := []api.Section{{}, {Type: 8, Flags: 7}}
	for flags := range uint64(8) {
		list = append(list, api.Section{Type: 1, Flags: flags})
	}
	for _, flags := range []uint64{1 << 63, 16 | 2, math.MaxUint64 &^ 7, 8 | 1} {
		list = append(list, api.Section{Type: 1, Flags: flags})
	}
	return append(list, api.Section{Type: 8})
}

func wantLetter(t *testing.T, bind, typ, section int, secs []api.Section, want byte) {
	t.Helper()
	// What a symbol has beside these does not matter.
	for _, s := range []api.Symbol{{}, {Name: "x", Other: 3, Value: 7, Size: 9}} {
		s.Bind, s.Type, s.Section = bind, typ, section
		if got := nm.Letter(s, secs); got != want {
			t.Errorf("20.1: Letter of Bind %d, Type %d, Section %d of %d = %q, want %q", bind, typ, section, len(secs), got, want)
		}
	}
}

// 20.1: each line of the table, with the binds 0, 1 and 2.
func TestLetter(t *testing.T) {
	secs := letterSections()
	for _, c := range []struct {
		section int
		letters string // with Bind 0, 1 and 2
	}{
		{0, "UUw"}, {0xfff2, "CCC"}, {0xfff1, "aAW"},
		{-1, "??W"}, {math.MinInt, "??W"}, {len(secs), "??W"}, {len(secs) + 1, "??W"}, {math.MaxInt, "??W"}, {0xfff0, "??W"}, {0xfff3, "??W"}, {0xffff, "??W"},
		{1, "bBW"}, {2, "nNW"}, {3, "dDW"}, {4, "rRW"}, {5, "dDW"}, {6, "tTW"}, {7, "tTW"}, {8, "tTW"}, {9, "tTW"},
		{10, "nNW"}, {11, "rRW"}, {12, "nNW"}, {13, "dDW"}, {14, "bBW"},
	} {
		for bind := range 3 {
			wantLetter(t, bind, 0, c.section, secs, c.letters[bind])
		}
	}
}

// 20.1: of two lines that both hold the first counts: a weak symbol's Type matters where it is defined in a section, or nowhere that is known, alone.
func TestFirstLine(t *testing.T) {
	secs := letterSections()
	for _, section := range []int{1, 2, 6, 0xfff1, -1, len(secs), math.MaxInt} {
		wantLetter(t, 2, 1, section, secs, 'V')
		for _, typ := range []int{-1, 0, 2, 3, 4, 10} {
			wantLetter(t, 2, typ, section, secs, 'W')
		}
	}
	wantLetter(t, 2, 1, 0, secs, 'w')
	wantLetter(t, 2, 1, 0xfff2, secs, 'C')
	wantLetter(t, 1, 1, 0, secs, 'U')
	wantLetter(t, 1, 1, 6, secs, 'T')
	wantLetter(t, 0, 1, 0xfff1, secs, 'a')
}

// 20.1: a Bind that is neither 0 nor 2 is as 1.
func TestOtherBinds(t *testing.T) {
	secs := letterSections()
	for _, bind := range []int{-1, 1, 3, 10, 15, math.MaxInt, math.MinInt} {
		for section, want := range map[int]byte{0: 'U', 0xfff2: 'C', 0xfff1: 'A', -1: '?', 99: '?', 1: 'B', 6: 'T', 3: 'D', 4: 'R', 2: 'N'} {
			wantLetter(t, bind, 1, section, secs, want)
		}
	}
}

// 20.1: a file without sections has none for any symbol.
func TestNoSections(t *testing.T) {
	for _, secs := range [][]api.Section{nil, {}} {
		for section, letters := range map[int]string{0: "UUw", 1: "??W", -1: "??W", 0xfff1: "aAW", 0xfff2: "CCC", 0xfff0: "??W"} {
			for bind := range 3 {
				wantLetter(t, bind, 0, section, secs, letters[bind])
			}
		}
	}
}

// 20.1: of so many sections that there is one of the number fff1 and one of fff2, these two mean what they mean.
func TestManySections(t *testing.T) {
	secs := make([]api.Section, 0x10010)
	for i := range secs {
		secs[i] = api.Section{Type: 1, Flags: 4}
	}
	for section, letters := range map[int]string{0xfff0: "tTW", 0xfff1: "aAW", 0xfff2: "CCC", 0xfff3: "tTW", 0x1000f: "tTW", 0x10010: "??W"} {
		for bind := range 3 {
			wantLetter(t, bind, 0, section, secs, letters[bind])
		}
	}
}
