package head_test

import (
	"math"
	"strconv"
	"strings"
	"testing"

	"shelf/api"
	"shelf/head"
)

// 7.4: the name, the numbers and the end, each at its columns.
func TestWrittenHeader(t *testing.T) {
	wantFormat(t, plainHead(), plain().bytes())
	wantFormat(t, api.Head{}, written{"", "0", "0", "0", "0", "0"}.bytes())
}

// 7.4, 7.5: each number's field at its least and its greatest number, at every number of digits, and one beyond.
func TestWrittenNumbersAtTheirEdges(t *testing.T) {
	for _, f := range numberFields() {
		for n := f.most; n > 0; n /= f.base {
			for _, v := range []int{n, n - n/f.base} { // 99..9 and 90..0
				w, h := f.with(strconv.FormatInt(int64(v), f.base), v)
				wantFormat(t, h, w.bytes())
			}
		}
		w, h := f.with("0", 0)
		wantFormat(t, h, w.bytes())
		for _, n := range []int{f.most + 1, f.most + 2, f.most * f.base, math.MaxInt, math.MaxInt - 1, -1, -2, -f.most, math.MinInt, math.MinInt + 1} {
			_, h := f.with("", n)
			wantUnwritten(t, h, api.ErrWide)
		}
	}
}

// 7.5: what the greatest numbers are.
func TestGreatestNumbers(t *testing.T) {
	most := api.Head{Meta: api.Meta{Date: 999999999999, UID: 999999, GID: 999999, Mode: 16777215}, Name: "sixteen.letters.", Size: 9999999999}
	wantFormat(t, most, "sixteen.letters."+"999999999999"+"999999"+"999999"+"77777777"+"9999999999"+end)
	if most.Date != api.MaxDate || most.Size != api.MaxSize {
		t.Errorf("MaxDate %d, MaxSize %d", api.MaxDate, api.MaxSize)
	}
}

// 7.4: names up to 16 bytes; longer ones are refused, whatever their bytes.
func TestWrittenNamesByTheirLengths(t *testing.T) {
	for _, c := range []string{"n", "\x00", "\n", "\xff", "/"} {
		for length := range 40 {
			w, h := plain(), plainHead()
			h.Name = strings.Repeat(c, length)
			if length > 16 {
				wantUnwritten(t, h, api.ErrName)
				continue
			}
			w.name = h.Name
			wantFormat(t, h, w.bytes())
		}
	}
	wantUnwritten(t, api.Head{Name: strings.Repeat("ä", 9)}, api.ErrName) // 9 runes, but 18 bytes
	wantFormat(t, api.Head{Name: strings.Repeat("ä", 8)}, written{strings.Repeat("ä", 8), "0", "0", "0", "0", "0"}.bytes())
}

// 7.4: a blank is refused at the end of a name, and nowhere else.
func TestBlanksInWrittenNames(t *testing.T) {
	for length := 1; length <= 20; length++ {
		for at := range length {
			w, h := plain(), plainHead()
			h.Name = setByte(strings.Repeat("n", length), at, ' ')
			if length > 16 || at == length-1 {
				wantUnwritten(t, h, api.ErrName)
				continue
			}
			w.name = h.Name
			wantFormat(t, h, w.bytes())
		}
		wantUnwritten(t, api.Head{Name: strings.Repeat(" ", length)}, api.ErrName)
		wantUnwritten(t, api.Head{Name: "n" + strings.Repeat(" ", length)}, api.ErrName)
	}
}

// 7.4: every byte but the blank may end a name.
func TestEveryByteAtTheEndOfAName(t *testing.T) {
	for c := range 256 {
		w, h := plain(), plainHead()
		h.Name = "n" + string([]byte{byte(c)})
		if c == ' ' {
			wantUnwritten(t, h, api.ErrName)
			continue
		}
		w.name = h.Name
		wantFormat(t, h, w.bytes())
	}
}

// 7.4: the name goes ahead of the numbers, whichever of them and however many are wrong.
func TestOrderOfFormatsRefusals(t *testing.T) {
	for _, wrong := range []int{-1, math.MinInt, math.MaxInt} {
		for wrongs := range 1 << 5 {
			h := plainHead()
			for i, f := range numberFields() {
				if wrongs>>i&1 == 1 {
					*f.value(&h) = wrong
				}
			}
			if wrongs == 0 {
				wantFormat(t, h, plain().bytes())
			} else {
				wantUnwritten(t, h, api.ErrWide)
			}
			for _, name := range []string{"a ", " ", "12345678901234567", "1234567890123456 "} {
				h.Name = name
				wantUnwritten(t, h, api.ErrName)
			}
		}
	}
}

// R2: the same Head is written the same again, whatever was written in between.
func TestFormatAgain(t *testing.T) {
	most := api.Head{Meta: api.Meta{Date: api.MaxDate, UID: 999999, GID: 999999, Mode: 0o77777777}, Name: "sixteen.letters.", Size: api.MaxSize}
	for range 3 {
		wantFormat(t, plainHead(), plain().bytes())
		if _, e := head.Format(most); e != api.OK {
			t.Errorf("Format(%+v): %d", most, e)
		}
		wantUnwritten(t, api.Head{Name: " "}, api.ErrName)
	}
}
