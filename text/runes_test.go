package text_test

import (
	"math"
	"strings"
	"testing"
	"unicode/utf8"

	"shelf/text"
)

func wantQuote(t *testing.T, name, quoted string) {
	t.Helper()
	if got := text.Quote(name); got != quoted {
		t.Errorf("Quote(%q) = %s, want %s", name, got, quoted)
	}
}

// byteEscapes are the bytes of s as a name's quotes tell those that are not plain.
func byteEscapes(s string) string {
	const digits = "0123456789abcdef"
	told := ""
	for _, b := range []byte(s) {
		told += `\x` + string(digits[b>>4]) + string(digits[b&15])
	}
	return told
}

// 2.3: names of plain runes stand as they are.
func TestPlainNames(t *testing.T) {
	for _, name := range []string{
		"a", "!", "~", "#", "lib.a", "ar.tmp~", "/", "'x'", "@file", "naïve.o", "\u00a0", "\u00a1", "\u07ff", "\u0800", "\ud7ff", "\ue000", "\ufffc", "\ufffd", "\uffff", "\U00010000", "\U0010ffff", "日本語.o",
	} {
		wantQuote(t, name, name)
		wantQuote(t, name+" ", `"`+name+` "`)
		wantQuote(t, "\xff"+name, `"\xff`+name+`"`)
	}
}

// 2.3: every rune of one byte, alone and between plain ones.
func TestQuotedBytes(t *testing.T) {
	told := map[byte]string{' ': " ", '"': `\"`, '\\': `\\`, '\n': `\n`, '\t': `\t`}
	for c := range 256 {
		b := string([]byte{byte(c)})
		if c > ' ' && c < 0x7f && c != '"' && c != '\\' {
			wantQuote(t, b, b)
			continue
		}
		want := told[byte(c)]
		if want == "" {
			want = byteEscapes(b)
		}
		wantQuote(t, b, `"`+want+`"`)
		wantQuote(t, "a"+b+"é", `"a`+want+`é"`)
		wantQuote(t, b+b, `"`+want+want+`"`)
	}
}

// 2.3: the runes 80 to 9f are told byte by byte.
func TestQuotedControlRunes(t *testing.T) {
	for r := rune(0x80); r <= 0x9f; r++ {
		wantQuote(t, string(r), `"`+byteEscapes(string(r))+`"`)
		wantQuote(t, "a"+string(r)+"b", `"a`+byteEscapes(string(r))+`b"`)
	}
}

// 2.3: what is no well-formed run is stray bytes, one by one.
func TestQuotedStrayBytes(t *testing.T) {
	for _, s := range []string{
		"\x80", "\xbf", "\xc0\x80", "\xc1\xbf", "\xc2", "\xdf", "\xc2\xc2", "\xe0\x9f\xbf", "\xe0\xa0", "\xe1\x80", "\xed\xa0\x80", "\xed\xbf\xbf", "\xef\xbf", "\xef\xbf\xbe"[:2],
		"\xf0\x8f\xbf\xbf", "\xf0\x90\x80", "\xf1\x80\x80", "\xf4\x90\x80\x80", "\xf5\x80\x80\x80", "\xfe", "\xff",
	} {
		wantQuote(t, s, `"`+byteEscapes(s)+`"`)
		wantQuote(t, s+"a", `"`+byteEscapes(s)+`a"`)
		wantQuote(t, "\ufffd"+s+"\ufffd", "\"\ufffd"+byteEscapes(s)+"\ufffd\"")
	}
	wantQuote(t, "\xc2\xc2\xa0", "\"\\xc2\u00a0\"")
	wantQuote(t, "\xef\xbf\xef\xbf\xbd", "\"\\xef\\xbf\ufffd\"")
}

// 2.4: one line of well-formed runs, and the name again.
func TestQuotesAreLinesAndWords(t *testing.T) {
	look := func(name string) {
		quoted := text.Quote(name)
		if !utf8.ValidString(quoted) {
			t.Errorf("Quote(%q) = %q has stray bytes", name, quoted)
		}
		for _, r := range quoted {
			if r < ' ' || r >= 0x7f && r <= 0x9f {
				t.Errorf("Quote(%q) = %q has the rune %x", name, quoted, r)
			}
		}
		wantWords(t, quoted, name)
	}
	look("")
	for c := range 1 << 16 {
		look(string([]byte{byte(c >> 8), byte(c)}))
		look(string(rune(c)))
		look(string([]byte{0xe1 + byte(c>>14), 0x80 + byte(c>>8&63), byte(c)}))
	}
}

// The chapter's examples of Quote, row by row.
func TestExamplesOfQuote(t *testing.T) {
	wantQuote(t, "lib.a", "lib.a")
	wantQuote(t, "naïve.o", "naïve.o")
	wantQuote(t, "naïve\n.o", `"naïve\n.o"`)
	wantQuote(t, "", `""`)
	wantQuote(t, "\xff\x5c", `"\xff\\"`)
	wantQuote(t, "\xc2\x85", `"\xc2\x85"`)
	wantQuote(t, "\xed\xa0\x80", `"\xed\xa0\x80"`)
	wantQuote(t, "\x00", `"\x00"`)
	wantQuote(t, "\xef\xbf\xbd", "\xef\xbf\xbd")
	wantQuote(t, "a b", `"a b"`)
}

// wantPad wants lack blanks ahead of s from Right, and behind it from Left.
func wantPad(t *testing.T, s string, n, lack int) {
	t.Helper()
	blanks := strings.Repeat(" ", lack)
	if got := text.Right(s, n); got != blanks+s {
		t.Errorf("Right(%q, %d) = %q, want %d blanks", s, n, got, lack)
	}
	if got := text.Left(s, n); got != s+blanks {
		t.Errorf("Left(%q, %d) = %q, want %d blanks", s, n, got, lack)
	}
}

// 2.10: blanks up to n runes.
func TestPaddingByRunes(t *testing.T) {
	wantPad(t, "7", 3, 2)
	wantPad(t, "é", 3, 2)
	wantPad(t, "日本", 3, 1)
	wantPad(t, "\U0001f600", 4, 3)
	wantPad(t, "\xff", 3, 2)
	wantPad(t, "\xe2\x82", 3, 1)
	wantPad(t, "\xe2\x82a", 3, 0)
	wantPad(t, "\xe2\x82\xac", 3, 2)
	wantPad(t, "e\u0301", 3, 1)
	wantPad(t, "\ufffd", 2, 1)
	wantPad(t, "\x00\n", 4, 2)
	wantPad(t, " ", 2, 1)
	wantPad(t, "", 2, 2)
}

// 2.10: as many runes as n, or more.
func TestNoPadding(t *testing.T) {
	wantPad(t, "abc", 2, 0)
	wantPad(t, "abc", 3, 0)
	wantPad(t, "", 0, 0)
	for _, n := range []int{0, -1, -256, math.MinInt, math.MinInt + 1} {
		wantPad(t, "", n, 0)
		wantPad(t, "ab", n, 0)
	}
}

// 2.10: an n above 256 counts as 256.
func TestMostPadding(t *testing.T) {
	for _, n := range []int{256, 257, 258, 1000, math.MaxInt} {
		wantPad(t, "", n, 256)
		wantPad(t, "é", n, 255)
		wantPad(t, strings.Repeat("é", 255), n, 1)
		wantPad(t, strings.Repeat("é", 256), n, 0)
		wantPad(t, strings.Repeat("a", 300), n, 0)
	}
	wantPad(t, "", 255, 255)
}
