package text_test

import (
	"slices"
	"strings"
	"testing"

	"shelf/api"
	"shelf/text"
)

// wantWords splits line and wants just these words, with 0 and OK.
func wantWords(t *testing.T, line string, words ...string) {
	t.Helper()
	got, at, e := text.Words(line)
	if !slices.Equal(got, words) || at != 0 || e != api.OK {
		t.Errorf("Words(%q) = %q, %d, %d, want %q, 0, 0", line, got, at, e, words)
	}
}

// wantFault splits line and wants no words, the place and the Errno e.
func wantFault(t *testing.T, line string, place int, e api.Errno) {
	t.Helper()
	got, at, gotE := text.Words(line)
	if len(got) != 0 || at != place || gotE != e {
		t.Errorf("Words(%q) = %q, %d, %d, want no words, %d, %d", line, got, at, gotE, place, e)
	}
}

// 2.1: what parts words, and how much of it.
func TestPartingBytes(t *testing.T) {
	wantWords(t, "a b\tc\nd", "a", "b", "c", "d")
	wantWords(t, " \t\n a \n\t b  ", "a", "b")
	for c := range 256 {
		b := string([]byte{byte(c)})
		switch b {
		case " ", "\t", "\n":
			wantWords(t, "a"+b+"b", "a", "b")
			wantWords(t, b+"a"+b, "a")
			wantWords(t, "a"+b+b+b+"b", "a", "b")
			wantWords(t, `"a`+b+`b"`, "a"+b+"b")
		case `"`, `\`:
		default:
			wantWords(t, "a"+b+"b", "a"+b+"b")
			wantWords(t, b, b)
			wantWords(t, `"`+b+`"`, b)
		}
	}
}

// 2.1: quotes switch on and off, and add nothing.
func TestQuotedParts(t *testing.T) {
	wantWords(t, `a"b c"d`, "ab cd")
	wantWords(t, `""`, "")
	wantWords(t, `""""`, "")
	wantWords(t, `"" ""`, "", "")
	wantWords(t, `a""`, "a")
	wantWords(t, `""a`, "a")
	wantWords(t, `" a"" b"`, " a b")
	wantWords(t, `" a" " b"`, " a", " b")
	wantWords(t, "\"\n\t \"", "\n\t ")
	wantWords(t, `a" "b c" "d`, "a b", "c d")
}

// 2.1: escapes within quotes and without.
func TestEscapes(t *testing.T) {
	for _, c := range []struct{ escape, b string }{
		{`\"`, `"`}, {`\\`, `\`}, {`\n`, "\n"}, {`\t`, "\t"},
		{`\x00`, "\x00"}, {`\x09`, "\t"}, {`\x20`, " "}, {`\x7f`, "\x7f"}, {`\x7F`, "\x7f"},
		{`\xaB`, "\xab"}, {`\xFf`, "\xff"}, {`\x22`, `"`}, {`\x5c`, `\`},
	} {
		wantWords(t, c.escape, c.b)
		wantWords(t, `"`+c.escape+`"`, c.b)
		wantWords(t, "a"+c.escape+"b", "a"+c.b+"b")
		wantWords(t, c.escape+" "+c.escape+"0", c.b, c.b+"0")
	}
	wantWords(t, `\\n\\x41`, `\n\x41`)
}

// 2.1: every value that two digits tell.
func TestHexEscapes(t *testing.T) {
	const small, capital = "0123456789abcdef", "0123456789ABCDEF"
	for c := range 256 {
		b := string([]byte{byte(c)})
		wantWords(t, `\x`+small[c>>4:c>>4+1]+small[c&15:c&15+1], b)
		wantWords(t, `\x`+capital[c>>4:c>>4+1]+capital[c&15:c&15+1], b)
	}
}

// 2.1: a backslash with anything else behind it, or with nothing.
func TestBadEscapes(t *testing.T) {
	for c := range 256 {
		b := string([]byte{byte(c)})
		if !strings.Contains(`"\ntx`, b) {
			wantFault(t, `\`+b, 0, api.ErrEscape)
			wantFault(t, `a "b \`+b+`"`, 5, api.ErrEscape)
		}
		if !strings.Contains("0123456789abcdefABCDEF", b) {
			wantFault(t, `ab\x`+b+"0", 2, api.ErrEscape)
			wantFault(t, `ab\x0`+b, 2, api.ErrEscape)
		}
	}
	for _, s := range []string{`\`, `\x`, `\x4`, `\x"`, `\x4"`} {
		wantFault(t, s, 0, api.ErrEscape)
		wantFault(t, `a b`+s, 3, api.ErrEscape)
		wantFault(t, `a "b`+s, 4, api.ErrEscape)
	}
}

// 2.1: a quote that is open at the line's end is told by its place.
func TestOpenQuotes(t *testing.T) {
	wantFault(t, `"`, 0, api.ErrQuote)
	wantFault(t, `a"`, 1, api.ErrQuote)
	wantFault(t, `"a\"`, 0, api.ErrQuote)
	wantFault(t, `""a"`, 3, api.ErrQuote)
	wantFault(t, `a "b c" "d e `, 8, api.ErrQuote)
	wantFault(t, `é "`, 3, api.ErrQuote)
}

// 2.2: the first fault from the left, and an open quote behind all others.
func TestFirstFault(t *testing.T) {
	wantFault(t, `a \q \r`, 2, api.ErrEscape)
	wantFault(t, `"a \q`, 3, api.ErrEscape)
	wantFault(t, `"a\x4"`, 2, api.ErrEscape)
	wantFault(t, `"\x4"`, 1, api.ErrEscape)
	wantFault(t, `"a\`, 2, api.ErrEscape)
	wantFault(t, `a b "c`, 4, api.ErrQuote)
}

// 2.2: no words, and a list of its own.
func TestListsOfWords(t *testing.T) {
	wantWords(t, "")
	wantWords(t, " ")
	wantWords(t, "\n\n\t")
	one, _, _ := text.Words("a b")
	two, _, _ := text.Words("a b")
	one[0] = "changed"
	if two[0] != "a" {
		t.Error("two answers of Words share memory")
	}
}

// The chapter's edges and examples of Words, row by row.
func TestExamplesOfWords(t *testing.T) {
	wantWords(t, "ar  rc lib.a \"a b.o\"", "ar", "rc", "lib.a", "a b.o")
	wantWords(t, " \t\n ")
	wantWords(t, "a \"\" b", "a", "", "b")
	wantWords(t, "put x\\n\\x00\" \"", "put", "\x78\x0a\x00\x20")
	wantFault(t, "a \"b", 2, api.ErrQuote)
	wantFault(t, "a \"b\\", 4, api.ErrEscape)
	wantFault(t, "\\q", 0, api.ErrEscape)
	wantWords(t, "\x00 é", "\x00", "é")
}

// 2.5: the Quotes with one blank between each two.
func TestJoin(t *testing.T) {
	for _, c := range []struct {
		line  string
		words []string
	}{
		{"", nil}, {"", []string{}}, {`""`, []string{""}}, {`"" ""`, []string{"", ""}},
		{"a", []string{"a"}}, {"a b c", []string{"a", "b", "c"}}, {`" " a`, []string{" ", "a"}},
		{`r "a b" ""`, []string{"r", "a b", ""}}, {`"\n" "\"" "\xff"`, []string{"\n", `"`, "\xff"}},
	} {
		if got := text.Join(c.words); got != c.line {
			t.Errorf("Join(%q) = %s, want %s", c.words, got, c.line)
		}
	}
}

// 2.6: Words gives back what was joined.
func TestWordsOfJoin(t *testing.T) {
	words := []string{"", " ", "a", "", `"`, `\`, `\n`, "\n", "\t\t", "a b", "\x00", "\xff\xfe", "é", "\u0085", "\ufffd", "\xef\xbf", `"" ""`, ""}
	for from := range words {
		for to := from; to <= len(words); to++ {
			wantWords(t, text.Join(words[from:to]), words[from:to]...)
		}
	}
}

// 2.5 and R4: the words that are handed in stay as they are.
func TestJoinKeepsItsWords(t *testing.T) {
	words := []string{"a b", "c", "spare"}
	text.Join(words[:2])
	if !slices.Equal(words, []string{"a b", "c", "spare"}) {
		t.Errorf("Join changed its words: %q", words)
	}
}
