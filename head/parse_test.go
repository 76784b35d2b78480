package head_test

import (
	"math"
	"strconv"
	"strings"
	"testing"

	"shelf/api"
	"shelf/head"
)

// 7.1: the lengths and the bytes that the chapter names.
func TestNumbersOfTheChapter(t *testing.T) {
	if api.HeadSize != 60 || api.HeadTail != string([]byte{96, 10}) || len(plain().bytes()) != 60 {
		t.Errorf("a header of %d bytes with the end %q", api.HeadSize, api.HeadTail)
	}
	for e, n := range map[api.Errno]int{api.ErrWide: 11, api.ErrShort: 70, api.ErrTail: 71, api.ErrField: 72, api.ErrName: 80} {
		if int(e) != n {
			t.Errorf("error %d, want %d", e, n)
		}
	}
}

// 7.1: each column is one of its own field, and of no other.
func TestEachColumnIsOfItsField(t *testing.T) {
	blank := written{}.bytes()
	for i := range 16 {
		wantParse(t, setByte(blank, i, 'x'), 0, api.Head{Name: strings.Repeat(" ", i) + "x"})
	}
	for _, f := range numberFields() {
		for digits := 1; digits <= f.width; digits++ {
			n := f.most
			for range f.width - digits {
				n /= f.base
			}
			var h api.Head
			*f.value(&h) = n
			ones := strings.Repeat(strconv.Itoa(f.base-1), digits)
			wantParse(t, blank[:f.at]+ones+blank[f.at+digits:], 0, h)
		}
	}
}

// 7.2: every place from which on fewer than 60 bytes stand, those below 0 and behind the end too.
func TestShortOfAHeader(t *testing.T) {
	whole := plain().bytes()
	for n := range 60 {
		wantUnread(t, whole[:n], 0, api.ErrShort)
		wantUnread(t, whole+whole[:n], n+1, api.ErrShort)
		wantUnread(t, whole[n+1:], 0, api.ErrShort)
	}
	for at := 1; at <= 200; at++ {
		wantUnread(t, whole, at, api.ErrShort)
		wantUnread(t, whole, -at, api.ErrShort)
		wantUnread(t, whole, math.MaxInt-at+1, api.ErrShort)
		wantUnread(t, whole, math.MinInt+at-1, api.ErrShort)
		wantUnread(t, "", at-1, api.ErrShort)
		wantUnread(t, "", -at, api.ErrShort)
		wantUnread(t, "", math.MaxInt-at+1, api.ErrShort)
		wantUnread(t, "", math.MinInt+at-1, api.ErrShort)
	}
}

// 7.2: a header that ends where b ends is there whole.
func TestJustAHeader(t *testing.T) {
	whole := plain().bytes()
	for ahead := range 130 {
		b := strings.Repeat("~", ahead) + whole
		wantParse(t, b, ahead, plainHead())
		wantUnread(t, b, ahead+1, api.ErrShort)
		wantUnread(t, b[:len(b)-1], ahead, api.ErrShort)
	}
}

// 7.2: both bytes of the end, and in this order.
func TestEndOfAHeader(t *testing.T) {
	start := plain().bytes()[:58]
	for first := range 256 {
		for second := range 256 {
			tail := string([]byte{byte(first), byte(second)})
			if tail != end {
				wantUnread(t, start+tail, 0, api.ErrTail)
			}
		}
	}
	wantParse(t, start+end, 0, plainHead())
}

// 7.2: each number's field at its least and its greatest number.
func TestNumbersAtTheirEdges(t *testing.T) {
	for _, f := range numberFields() {
		most := strconv.FormatInt(int64(f.most), f.base)
		for text, n := range map[string]int{
			"": 0, "0": 0, strings.Repeat("0", f.width): 0, "1": 1, "10": f.base,
			strings.Repeat("0", f.width-1) + "7": 7,
			most:                                 f.most,
			most[1:]:                             (f.most+1)/f.base - 1,
			"0" + most[1:]:                       (f.most+1)/f.base - 1,
		} {
			w, h := f.with(text, n)
			wantParse(t, w.bytes(), 0, h)
		}
	}
}

// 7.2: every byte in every column of every number: a digit ahead of the blanks, or a refusal.
func TestForeignBytesInNumbers(t *testing.T) {
	for _, f := range numberFields() {
		for i := range f.width {
			for c := range 256 {
				b := setByte(plain().bytes(), f.at+i, byte(c))
				field := strings.TrimRight(b[f.at:f.at+f.width], " ")
				n, err := strconv.ParseUint("0"+field, f.base, 63)
				if err != nil {
					wantUnread(t, b, 0, api.ErrField)
					continue
				}
				_, h := f.with(field, int(n))
				wantParse(t, b, 0, h)
			}
		}
	}
}

// 7.2: what layer 1 refuses, in each field.
func TestRefusedNumbers(t *testing.T) {
	for _, f := range numberFields() {
		for _, text := range []string{" 0", " 1", "1 2", "-1", "+1", "0x1", "1_0", "1.", "1\x00", "\x00", "\t1", "1\n", "١", "a"} {
			w, _ := f.with(text, 0)
			wantUnread(t, w.bytes(), 0, api.ErrField)
		}
		for _, digit := range []string{"8", "9", "18", "80"} {
			w, h := f.with(digit, 0)
			if f.base == 8 {
				wantUnread(t, w.bytes(), 0, api.ErrField)
				continue
			}
			*f.value(&h), _ = strconv.Atoi(digit)
			wantParse(t, w.bytes(), 0, h)
		}
	}
}

// 7.2: too short goes ahead of the end, the end ahead of the fields, whichever of them and however many are wrong.
func TestOrderOfParsesRefusals(t *testing.T) {
	for wrongs := range 1 << 5 {
		w := plain()
		for i, f := range numberFields() {
			if wrongs>>i&1 == 1 {
				*f.text(&w) = "x"
			}
		}
		b := w.bytes()
		if wrongs == 0 {
			wantParse(t, b, 0, plainHead())
		} else {
			wantUnread(t, b, 0, api.ErrField)
		}
		wantUnread(t, b[:58]+"\n\n", 0, api.ErrTail)
		wantUnread(t, b[:58]+"\n", 0, api.ErrShort)
		wantUnread(t, b[:58]+"\n\n", 1, api.ErrShort)
		wantUnread(t, b[:58]+"\n\n", -1, api.ErrShort)
	}
}

// 7.2: the blanks at the end of the name field go, and nothing else.
func TestNameField(t *testing.T) {
	for _, name := range []string{
		"", "a", "a/", "/", "//", "/SYM64/", "#1/20", "__.SYMDEF", " a b", "a  b", " a", "               a", "a\t", "a\n", "a\x00",
		"\x00", "\x00\x00 \x00", "a \x00", "\n", "\u00a0", "a\u2003", "ä", "\xff", "\xc2", "\xa0", "\x85", "fifteen.letters", "sixteen.letters.", "sixteen blanks.\x00",
	} {
		w, h := plain(), plainHead()
		w.name, h.Name = name, name
		wantParse(t, w.bytes(), 0, h)
	}
}

// 7.2: a name of every length, with blanks ahead of it.
func TestNamesByTheirLengths(t *testing.T) {
	for length := range 17 {
		for ahead := range length {
			w, h := plain(), plainHead()
			w.name = strings.Repeat(" ", ahead) + strings.Repeat("n", length-ahead)
			h.Name = w.name
			wantParse(t, w.bytes(), 0, h)
		}
	}
}

// 7.2: every byte but the blank stays, at every column of the name.
func TestEveryByteInANameField(t *testing.T) {
	for c := range 256 {
		for i := range 16 {
			w, h := plain(), plainHead()
			w.name = strings.Repeat(" ", i) + string([]byte{byte(c)})
			if c != ' ' {
				h.Name = w.name
			} else {
				h.Name = ""
			}
			wantParse(t, w.bytes(), 0, h)
		}
	}
}

// 7.3: bytes ahead of and behind the header, a blank, a digit or an end among them, change nothing.
func TestWhatStandsAround(t *testing.T) {
	bad := plain()
	bad.date = "x"
	around := []string{"", " ", "0", "9", "\x60", "\n", end, "\x00", "\xff", "abc", strings.Repeat("1", 200), plain().bytes(), bad.bytes(), "!<arch>\n"}
	whole, wrong := plain().bytes(), bad.bytes()
	for _, ahead := range around {
		for _, behind := range around {
			wantParse(t, ahead+whole+behind, len(ahead), plainHead())
			wantUnread(t, ahead+wrong+behind, len(ahead), api.ErrField)
			wantUnread(t, ahead+whole[:58]+"\n\x60"+behind, len(ahead), api.ErrTail)
		}
	}
}

// 7.3: a header within headers is read where it is asked for, not where one stands.
func TestAtEveryPlace(t *testing.T) {
	b := strings.Repeat(plain().bytes(), 3)
	for at := range len(b) + 1 {
		switch {
		case at > 120:
			wantUnread(t, b, at, api.ErrShort)
		case at%60 == 0:
			wantParse(t, b, at, plainHead())
		default:
			wantUnread(t, b, at, api.ErrTail)
		}
	}
}

// R2: the same header is read the same again.
func TestParseAgain(t *testing.T) {
	b := plain().bytes()
	for range 3 {
		wantParse(t, b, 0, plainHead())
		wantUnread(t, b, 1, api.ErrShort)
	}
	if h, _ := head.Parse(b, 0); h.Name != "hello.c/" || h.Mode != 0o644 {
		t.Errorf("%+v", h)
	}
}
