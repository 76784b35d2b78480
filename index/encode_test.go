package index_test

import (
	"math"
	"strings"
	"testing"

	"shelf/api"
)

// 11.1: forms that are none, ahead of each other fault, in Size and Encode.
func TestNoForms(t *testing.T) {
	for _, form := range noForms() {
		for _, names := range [][]string{nil, {}, {"f"}, {""}, {"\x00"}, {"f", ""}} {
			wantSize(t, form, names, 0, api.ErrForm)
		}
		for _, l := range [][]api.Entry{nil, {}, list("f", 8), list("", 8), list("f\x00", 8), list("f", -1), list("f", wide32), list("f", math.MaxInt), list("", -1), list("f", 8, "", math.MinInt)} {
			wantNoEncode(t, form, l, api.ErrForm)
		}
	}
}

// 11.2, 11.3: names that are not good, in every place of the list.
func TestNames(t *testing.T) {
	for _, form := range forms() {
		for _, name := range []string{"", "\x00", "\x00f", "f\x00", "f\x00g", "\x00\x00", strings.Repeat("f", 1000) + "\x00", strings.Repeat("f", 999) + "\x00f"} {
			for place := range 4 {
				l := list("f", 8, "go", 300, "h", 1, "ij", 2)
				l[place].Name = name
				wantSize(t, form, namesOf(l), 0, api.ErrName)
				wantNoEncode(t, form, l, api.ErrName)
			}
			wantSize(t, form, []string{name}, 0, api.ErrName)
			wantNoEncode(t, form, list(name, 8), api.ErrName)
		}
	}
}

// 11.2, 11.3: every byte but 0, by itself and among others.
func TestEveryByte(t *testing.T) {
	for _, form := range forms() {
		var all string
		for b := 1; b < 256; b++ {
			c := string([]byte{byte(b)})
			all += c
			wantTaken(t, form, list(c, b))
			wantTaken(t, form, list("f"+c, b, c+"f", b, "f"+c+"f", b))
		}
		wantTaken(t, form, list(all, 8, all[1:], 9, all, 10))
		wantTaken(t, form, list("f\ng", 1, " ", 2, "ü", 3, "\xff\xfe", 4, "\n", 5, "/", 6))
	}
}

// 11.3: places around 0, around Wide32 and up to the greatest int, in every place of the list.
func TestPlaces(t *testing.T) {
	for _, form := range forms() {
		for place := range 3 {
			for _, at := range []int{0, 1, 2, 255, 256, 65535, 65536, 1<<24 - 1, 1 << 24, 1<<31 - 1, 1 << 31, wide32 - 2, wide32 - 1} {
				l := list("f", 8, "go", 300, "hij", 2)
				l[place].At = at
				wantTaken(t, form, l)
			}
			for _, at := range []int{wide32, wide32 + 1, wide32 + 8, 2 * wide32, 1<<40 + 5, 1<<62 + 1, math.MaxInt - 1, math.MaxInt} {
				l := list("f", 8, "go", 300, "hij", 2)
				l[place].At = at
				if form == api.Index64 {
					wantTaken(t, form, l)
				} else {
					wantNoEncode(t, form, l, api.ErrFar)
				}
			}
			for _, at := range []int{-1, -2, -8, -wide32, -wide32 + 8, math.MinInt, math.MinInt + 8} {
				l := list("f", 8, "go", 300, "hij", 2)
				l[place].At = at
				wantNoEncode(t, form, l, api.ErrFar)
			}
		}
	}
}

// 11.3: a name that is not good goes ahead of every place that is too far, wherever the two stand.
func TestNameAheadOfFar(t *testing.T) {
	for _, form := range forms() {
		for name := range 3 {
			for far := range 3 {
				for _, at := range []int{-1, math.MinInt, wide32, math.MaxInt} {
					l := list("f", 8, "go", 300, "hij", 2)
					l[name].Name, l[far].At = "f\x00", at
					wantNoEncode(t, form, l, api.ErrName)
					l[name].Name = ""
					wantNoEncode(t, form, l, api.ErrName)
				}
			}
		}
	}
}

// 11.2, 11.3: no entries, equal ones, even and odd lengths in all.
func TestLists(t *testing.T) {
	wantEncode(t, api.Index32, nil, big4(0))
	wantEncode(t, api.Index64, []api.Entry{}, big8(0))
	wantEncode(t, api.IndexBSD, []api.Entry{}, little4(0, 0))
	wantEncode(t, api.Index32, list("f", 1, "f", 1, "f", 2, "f", 1), big4(4, 1, 1, 2, 1)+ends("f", "f", "f", "f"))
	wantEncode(t, api.Index64, list("f", 1, "f", 1), big8(2, 1, 1)+ends("f", "f"))
	wantEncode(t, api.IndexBSD, list("f", 1, "f", 1), little4(16, 0, 1, 2, 1, 4)+ends("f", "f"))
	wantEncode(t, api.IndexBSD, list("abc", 7), little4(8, 0, 7, 4)+ends("abc"))
	wantEncode(t, api.IndexBSD, list("ab", 7), little4(8, 0, 7, 4)+ends("ab", ""))
	for _, form := range forms() {
		for first := 1; first < 12; first++ {
			wantTaken(t, form, list(strings.Repeat("x", first), 5))
			for second := 1; second < 12; second++ {
				wantTaken(t, form, list(strings.Repeat("x", first), 5, strings.Repeat("y", second), 4))
				wantTaken(t, form, list(strings.Repeat("x", first), 5, strings.Repeat("y", second), 4, "z", 5))
			}
		}
	}
}

// 11.3, 11.6: so many entries that each byte of count, of places in the strings and of lengths is not 0.
func TestManyEntries(t *testing.T) {
	for _, form := range forms() {
		for _, n := range []int{255, 256, 257, 8191, 8192, 65535, 65536, 65537} {
			l := make([]api.Entry, n)
			for i := range l {
				l[i] = api.Entry{Name: strings.Repeat("n", 1+i%3) + string(rune('a'+i%26)), At: 60 * i}
			}
			wantTaken(t, form, l)
		}
		wantTaken(t, form, list(strings.Repeat("x", 1<<24+5), 1, "y", 2, "z", 3))
	}
}

// 11.3: strings as long as four bytes cannot tell, by their names or only by the byte that makes them even. What is refused is not written first.
func TestStringsTooLong(t *testing.T) {
	name := strings.Repeat("x", 65535)
	l := make([]api.Entry, 65536)
	for i := range l {
		l[i] = api.Entry{Name: name, At: i}
	}
	for _, last := range []string{name, name[1:], name + "x"} {
		l[len(l)-1].Name = last
		if made := memory(func() { wantNoEncode(t, api.IndexBSD, l, api.ErrFar) }); made > 1<<24 {
			t.Errorf("Encode takes %d bytes of memory ahead of the refusal", made)
		}
	}
	l[0].Name = ""
	wantNoEncode(t, api.IndexBSD, l, api.ErrName)
	names := namesOf(l)
	names[0] = name
	names[1] = name[2:]
	wantSize(t, api.Index32, names, 4*65537+65536*65536, api.OK)
	wantSize(t, api.Index64, names, 8*65537+65536*65536, api.OK)
	wantSize(t, api.IndexBSD, names, 8*65537+65536*65536, api.OK)
}
