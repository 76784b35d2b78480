package index_test

import (
	"math"
	"strings"
	"testing"

	"shelf/api"
	"shelf/index"
)

// 11.1: forms that are none, whatever the data are.
func TestNoFormsOfData(t *testing.T) {
	l := list("f", 8, "go", 300)
	for _, form := range noForms() {
		wantNoDecode(t, form, "", api.ErrForm)
		wantNoDecode(t, form, "x", api.ErrForm)
		wantNoDecode(t, form, strings.Repeat("\x00", 8), api.ErrForm)
		for _, right := range forms() {
			b, _ := index.Encode(right, l)
			wantNoDecode(t, form, b, api.ErrForm)
			wantNoDecode(t, form, b[:len(b)-2], api.ErrForm)
		}
	}
}

// 11.4: every beginning of an index. Of the forms in a row the last byte 0 may be missing if it makes the length even; of the other one no byte may, since the length of the strings counts it.
func TestBeginnings(t *testing.T) {
	for _, form := range forms() {
		for _, l := range [][]api.Entry{nil, list("f", 8), list("go", 8), list("f", 8, "go", 300), list("abc", 1, "d", 2, "abc", 3), list("ab", 0, "ab", 0, "cde", wide32-1)} {
			b, e := index.Encode(form, l)
			if e != api.OK {
				t.Fatalf("Encode(%d, %s): %d", form, few(l), e)
			}
			text := 0
			for _, x := range l {
				text += len(x.Name) + 1
			}
			for n := range len(b) {
				if n == len(b)-1 && form != api.IndexBSD && text%2 == 1 {
					wantDecode(t, form, b[:n], l)
				} else {
					wantNoDecode(t, form, b[:n], api.ErrIndex)
				}
			}
			wantDecode(t, form, b, l)
		}
	}
}

// 11.4: bytes behind the names: bytes 0 alone, as many as there are.
func TestBehindTheNames(t *testing.T) {
	for _, form := range []api.Form{api.Index32, api.Index64} {
		for _, l := range [][]api.Entry{nil, list("f", 8), list("go", 8), list("f", 8, "go", 300)} {
			b, _ := index.Encode(form, l)
			for n := range 20 {
				zeros := strings.Repeat("\x00", n)
				wantDecode(t, form, b+zeros, l)
				for _, other := range []string{"\x01", "x", "\n", " ", "\xff", "f\x00", "\x00x", "\x00\x00\x01"} {
					wantNoDecode(t, form, b+zeros+other, api.ErrIndex)
					wantNoDecode(t, form, b+zeros+other+zeros, api.ErrIndex)
				}
			}
			wantDecode(t, form, b+strings.Repeat("\x00", 100000), l)
			wantNoDecode(t, form, b+strings.Repeat("\x00", 100000)+"\x01", api.ErrIndex)
		}
	}
}

// 11.4: counts of which data hold less, up to the greatest that their bytes can tell.
func TestCounts(t *testing.T) {
	three := ends("f", "go", "h")
	for _, behind := range []string{"", "\x00", "f\x00", three, strings.Repeat("\x00", 64), strings.Repeat("f\x00", 64), strings.Repeat("\xff", 64)} {
		for _, count := range []uint32{1 << 20, 1 << 24, 1 << 28, 1<<29 - 1, 1 << 29, 1<<29 + 1, 1<<30 - 1, 1 << 30, 1<<30 + 1, 1<<31 - 1, 1 << 31, 1<<31 + 1, 3 << 30, 3<<30 + 1, math.MaxUint32 - 7, math.MaxUint32 - 3, math.MaxUint32 - 1, math.MaxUint32} {
			wantNoDecode(t, api.Index32, big4(count)+behind, api.ErrIndex)
			wantNoDecode(t, api.IndexBSD, little4(count)+behind, api.ErrIndex)
			wantNoDecode(t, api.IndexBSD, little4(count&^7)+behind, api.ErrIndex)
			wantNoDecode(t, api.IndexBSD, little4(0, count)+behind, api.ErrIndex)
			wantNoDecode(t, api.IndexBSD, little4(8, 0, 7, count)+behind, api.ErrIndex)
		}
		for _, count := range []uint64{1 << 20, 1 << 32, 1<<32 + 1, 1<<60 - 1, 1 << 60, 1<<60 + 1, 1<<61 - 1, 1 << 61, 1<<61 + 1, 1<<61 + 3, 1<<62 + 1, 3 << 61, 3<<61 + 1, 1<<63 - 1, 1 << 63, 1<<63 + 1, 7 << 61, 7<<61 + 1, math.MaxUint64 - 7, math.MaxUint64 - 1, math.MaxUint64} {
			wantNoDecode(t, api.Index64, big8(count)+behind, api.ErrIndex)
			wantNoDecode(t, api.Index64, big8(count, 5)+behind, api.ErrIndex)
		}
	}
	// one more and one less than there are
	wantDecode(t, api.Index32, big4(3, 1, 2, 3)+three, list("f", 1, "go", 2, "h", 3))
	wantNoDecode(t, api.Index32, big4(4, 1, 2, 3)+three, api.ErrIndex)
	wantNoDecode(t, api.Index32, big4(2, 1, 2, 3)+three, api.ErrIndex)
	wantDecode(t, api.Index64, big8(3, 1, 2, 3)+three, list("f", 1, "go", 2, "h", 3))
	wantNoDecode(t, api.Index64, big8(4, 1, 2, 3)+three, api.ErrIndex)
	wantNoDecode(t, api.Index64, big8(2, 1, 2, 3)+three, api.ErrIndex)
}

// 11.4: places of members, in every place of the list.
func TestPlacesOfData(t *testing.T) {
	for place := range 3 {
		for _, at := range []uint32{0, 1, 1<<31 - 1, 1 << 31, 1<<31 + 1, math.MaxUint32} {
			l := list("f", 1, "go", 2, "h", 3)
			l[place].At = int(at)
			narrow := []uint32{uint32(l[0].At), uint32(l[1].At), uint32(l[2].At)}
			wantDecode(t, api.Index32, big4(append([]uint32{3}, narrow...)...)+ends("f", "go", "h"), l)
			wantDecode(t, api.IndexBSD, little4(24, 0, narrow[0], 2, narrow[1], 5, narrow[2], 7)+ends("f", "go", "h"), l)
		}
		for _, at := range []uint64{0, 1, 1<<32 - 1, 1 << 32, 1<<63 - 2, 1<<63 - 1, 1 << 63, 1<<63 + 1, 3 << 62, math.MaxUint64 - 1, math.MaxUint64} {
			wide := []uint64{3, 1, 2, 3}
			wide[1+place] = at
			b := big8(wide...) + ends("f", "go", "h")
			if at > math.MaxInt64 {
				wantNoDecode(t, api.Index64, b, api.ErrIndex)
				continue
			}
			l := list("f", 1, "go", 2, "h", 3)
			l[place].At = int(at)
			wantDecode(t, api.Index64, b, l)
		}
	}
}

// 11.4: names in a row that are empty or have no byte 0.
func TestNamesInARow(t *testing.T) {
	for _, numbers := range []struct {
		form api.Form
		two  string
	}{{api.Index32, big4(2, 1, 2)}, {api.Index64, big8(2, 1, 2)}} {
		for _, names := range []string{"", "\x00", "f", "f\x00", "f\x00g", "f\x00\x00", "\x00f\x00", "\x00\x00", "\x00f\x00g\x00", "f\x00\x00g\x00", "f\x00\x00\x00\x00", "f\x00g\x00h", "f\x00g\x00\x00h"} {
			wantNoDecode(t, numbers.form, numbers.two+names, api.ErrIndex)
		}
		for _, names := range []string{"f\x00g\x00", "f\x00g\x00\x00", "f\x00g\x00\x00\x00\x00"} {
			wantDecode(t, numbers.form, numbers.two+names, list("f", 1, "g", 2))
		}
		wantDecode(t, numbers.form, numbers.two+"\xff\x01\n \x00\x80\x00", list("\xff\x01\n ", 1, "\x80", 2))
	}
}

// 11.4: a first number that is no multiple of 8, though data hold as many bytes.
func TestNoMultipleOfEight(t *testing.T) {
	for n := range 65 {
		pairs := strings.Repeat(little4(0, 7), 9)[:n]
		b := little4(uint32(n)) + pairs + little4(2) + "f\x00"
		if n%8 != 0 {
			wantNoDecode(t, api.IndexBSD, b, api.ErrIndex)
			continue
		}
		var l []api.Entry
		for range n / 8 {
			l = append(l, api.Entry{Name: "f", At: 7})
		}
		wantDecode(t, api.IndexBSD, b, l)
	}
}

// 11.4: names' places in the strings: within, at and beyond their end, in every place of the list; names that run into one another.
func TestPlacesOfNames(t *testing.T) {
	const strs = "abc\x00d\x00\x00ef"
	named := map[uint32]string{0: "abc", 1: "bc", 2: "c", 4: "d"}
	at := []uint32{0, 1, 2, 3, 4, 5, 6, 7, 8, 9, 10, 11, 100, 1 << 31, 1<<31 - 1, math.MaxUint32 - 1, math.MaxUint32}
	for _, behind := range []string{"", "\x00", "x\x00\x00", strings.Repeat("x", 200) + "\x00"} {
		for _, first := range at {
			for _, second := range at {
				b := little4(16, first, 5, second, 6, uint32(len(strs))) + strs + behind
				if named[first] == "" || named[second] == "" {
					wantNoDecode(t, api.IndexBSD, b, api.ErrIndex)
				} else {
					wantDecode(t, api.IndexBSD, b, list(named[first], 5, named[second], 6))
				}
			}
		}
	}
}

// 11.4: the strings end where their length says, whatever stands behind; what no entry means is let go.
func TestStringsEnd(t *testing.T) {
	const all = "abc\x00de\x00f\x00\x00\x00g"
	for length := range len(all) + 1 {
		b := little4(16, 0, 5, 4, 6, uint32(length)) + all
		if length < 7 {
			wantNoDecode(t, api.IndexBSD, b, api.ErrIndex)
		} else {
			wantDecode(t, api.IndexBSD, b, list("abc", 5, "de", 6))
		}
		wantDecode(t, api.IndexBSD, little4(0, uint32(length))+all, nil)
	}
	wantNoDecode(t, api.IndexBSD, little4(16, 0, 5, 4, 6, uint32(len(all)+1))+all, api.ErrIndex)
	wantNoDecode(t, api.IndexBSD, little4(0, uint32(len(all)+1))+all, api.ErrIndex)
	for _, l := range [][]api.Entry{nil, list("f", 8), list("go", 8), list("f", 8, "go", 300)} {
		b, _ := index.Encode(api.IndexBSD, l)
		for _, behind := range []string{"\x00", "x", "\n", "tail", little4(8, 0, 7, 2) + "f\x00", strings.Repeat("\xff", 1000)} {
			wantDecode(t, api.IndexBSD, b+behind, l)
		}
	}
}

// 11.4: entries whose names stand in another order than they, more than once, and in part.
func TestNamesInAnyOrder(t *testing.T) {
	const strs = "main\x00puts\x00\x00x\x00"
	wantDecode(t, api.IndexBSD, little4(56, 11, 1, 5, 2, 0, 3, 7, 4, 5, 5, 3, 6, 11, 7, uint32(len(strs)))+strs, list("x", 1, "puts", 2, "main", 3, "ts", 4, "puts", 5, "n", 6, "x", 7))
}

// 11.5: a name that stands several times, parts and longer forms of names that are there.
func TestFind(t *testing.T) {
	l := list("f", 9, "go", 0, "f", 8, "gone", 7, "go", 6, "on", 5)
	for _, form := range forms() {
		b, _ := index.Encode(form, l)
		wantFind(t, form, b, "f", 9, api.OK)
		wantFind(t, form, b, "go", 0, api.OK)
		wantFind(t, form, b, "gone", 7, api.OK)
		wantFind(t, form, b, "on", 5, api.OK)
		for _, name := range []string{"", "\x00", "g", "o", "n", "ne", "one", "F", "ff", "f\x00", "f\x00go", "go\x00f", "\x00f", "gon", "gones", " f", "f "} {
			wantFind(t, form, b, name, 0, api.ErrNone)
		}
		empty, _ := index.Encode(form, nil)
		wantFind(t, form, empty, "f", 0, api.ErrNone)
		// the whole index is looked at: what is wrong behind the name is a refusal all the same
		wantFind(t, form, b[:len(b)-2], "f", 0, api.ErrIndex)
		wantFind(t, form, b[:len(b)-2], "no", 0, api.ErrIndex)
	}
	wantFind(t, api.Index32, big4(1, 5)+"f\x00x", "f", 0, api.ErrIndex)
	wantFind(t, api.IndexBSD, little4(16, 0, 5, 2, 6, 2)+"f\x00", "f", 0, api.ErrIndex)
	wantFind(t, api.IndexBSD, little4(8, 1, 5, 4)+"abc\x00", "abc", 0, api.ErrNone)
}
