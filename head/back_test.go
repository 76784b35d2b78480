package head_test

import (
	"strconv"
	"strings"
	"testing"

	"shelf/api"
	"shelf/head"
)

// wantBack wants that Format takes h, and that Parse reads h again.
func wantBack(t *testing.T, h api.Head) {
	t.Helper()
	b := mustFormat(t, h)
	if len(b) != api.HeadSize {
		t.Errorf("Format(%+v): %d bytes", h, len(b))
	}
	wantParse(t, b, 0, h)
}

// 7.6: what Format writes, Parse reads, for each number by itself at every number of digits.
func TestNumbersThereAndBack(t *testing.T) {
	for _, f := range numberFields() {
		for n := f.most; n > 0; n /= 3 {
			for _, v := range []int{n, n - 1, n / 2} {
				_, h := f.with("", v)
				wantBack(t, h)
			}
		}
	}
}

// 7.6: likewise of names.
func TestNamesThereAndBack(t *testing.T) {
	for _, name := range []string{"", "/", "//", "a b", " a", "\x00", "a\x00", "\n", "\x60\n", "sixteen.letters.", "\xff\xfe", "               a"} {
		h := plainHead()
		h.Name = name
		wantBack(t, h)
	}
}

// 7.6: what Parse reads, Format takes; it has the same bytes just if each number begins with a digit, but not with a zero that another digit follows.
func TestBytesThereAndBack(t *testing.T) {
	for _, f := range numberFields() {
		most := strconv.FormatInt(int64(f.most), f.base)
		for text, same := range map[string]bool{
			"0": true, "1": true, "7": true, "10": true, "70": true, most: true, most[1:]: true,
			"": false, "00": false, "01": false, "010": false, strings.Repeat("0", f.width): false, "0" + most[1:]: false,
		} {
			w, _ := f.with(text, 0)
			b := w.bytes()
			h, e := head.Parse(b, 0)
			if e != api.OK {
				t.Errorf("Parse(%q): %d", b, e)
				continue
			}
			again := mustFormat(t, h)
			wantParse(t, again, 0, h)
			if (again == b) != same {
				t.Errorf("the %s %q: from %q to %q", f.what, text, b, again)
			}
		}
	}
}

// 7.6: a header of blanks alone with its end is read, and written with its zeros.
func TestBlanksThereAndBack(t *testing.T) {
	h, e := head.Parse(written{}.bytes(), 0)
	if h != (api.Head{}) || e != api.OK {
		t.Fatalf("%+v, %d", h, e)
	}
	wantFormat(t, h, written{"", "0", "0", "0", "0", "0"}.bytes())
}
