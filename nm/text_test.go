package nm_test

import (
	"math"
	"strings"
	"testing"

	"shelf/api"
	"shelf/nm"
)

func wantText(t *testing.T, class int, prefix, want string, rows ...api.Row) {
	t.Helper()
	if got := nm.Text(rows, class, prefix); got != want {
		t.Errorf("20.4: Text(%v, %d, %q) = %q, want %q", rows, class, prefix, got, want)
	}
}

// 20.4: the columns of each class: eight with 32, sixteen with any other number.
func TestClass(t *testing.T) {
	m := row("main", 4096, 1)
	wantText(t, 32, "", "00001000 T main\n", m)
	for _, class := range []int{64, 0, -1, 1, 2, 16, 31, 33, -32, 128, math.MaxInt, math.MinInt} {
		wantText(t, class, "", "0000000000001000 T main\n", m)
		wantText(t, class, "", strings.Repeat(" ", 16)+" U puts\n", row("puts", 0, 0))
	}
	wantText(t, 32, "", strings.Repeat(" ", 8)+" U puts\n", row("puts", 0, 0))
}

// 20.4: values from the least to the largest, with zeros ahead, small digits, and more columns where they are needed.
func TestValue(t *testing.T) {
	for value, digits := range map[uint64]string{
		0: "0", 1: "1", 9: "9", 10: "a", 15: "f", 16: "10", 0xabcdef: "abcdef", 1<<32 - 1: "ffffffff", 0x0fffffff: "fffffff",
	} {
		wantText(t, 32, "", strings.Repeat("0", 8-len(digits))+digits+" T x\n", row("x", value, 1))
		wantText(t, 64, "", strings.Repeat("0", 16-len(digits))+digits+" T x\n", row("x", value, 1))
	}
	wantText(t, 32, "", "100000000 T x\n", row("x", 1<<32, 1))
	wantText(t, 32, "", "123456789abcdef0 T x\n", row("x", 0x123456789abcdef0, 1))
	wantText(t, 32, "", "ffffffffffffffff T x\n", row("x", math.MaxUint64, 1))
	wantText(t, 64, "", "ffffffffffffffff T x\n", row("x", math.MaxUint64, 1))
	wantText(t, 64, "", "0fffffffffffffff T x\n", row("x", math.MaxUint64>>4, 1))
}

// 20.4: the Section alone says whether there is a value, not the Letter and not the Value.
func TestSectionZero(t *testing.T) {
	r := row("x", 77, 0)
	r.Letter = 'T'
	wantText(t, 32, "", "         T x\n", r)
	for _, section := range []int{-1, 1, 0xfff1, 0xfff2, math.MaxInt, math.MinInt} {
		r = row("x", 77, section)
		r.Letter = 'U'
		wantText(t, 32, "", "0000004d U x\n", r)
	}
}

// 20.4: the prefix stands ahead of each line as it is; no row is no line.
func TestPrefix(t *testing.T) {
	for _, prefix := range []string{"", "p:", "a b:", "\"q\":", "\n", "\xff\x00", "é", "%d"} {
		wantText(t, 32, prefix, prefix+"00000001 T a\n"+prefix+"         U b\n"+prefix+"00000001 T a\n", row("a", 1, 1), row("b", 2, 0), row("a", 1, 1))
		wantText(t, 32, prefix, "")
		wantText(t, 64, prefix, "")
	}
}

// 20.4: names are quoted; the Letter is a byte, whatever it is.
func TestNameAndLetter(t *testing.T) {
	for name, want := range map[string]string{
		"": `""`, "a b": `"a b"`, "a\nb": `"a\nb"`, "\xff": `"\xff"`, "é": "é", `"`: `"\""`, `\`: `"\\"`, "_Z1fv": "_Z1fv", "\x00": `"\x00"`, "f@GLIBC_2.2": "f@GLIBC_2.2",
	} {
		wantText(t, 32, "", "00000001 T "+want+"\n", row(name, 1, 1))
		wantText(t, 64, "", strings.Repeat(" ", 16)+" U "+want+"\n", row(name, 1, 0))
	}
	for letter := range 256 {
		r := row("x", 1, 1)
		r.Letter = byte(letter)
		wantText(t, 32, "", "00000001 "+string([]byte{byte(letter)})+" x\n", r)
	}
}

// 20.4: of the row nothing else matters, and the rows stay in their order.
func TestRestOfRow(t *testing.T) {
	r := row("b", 1, 1)
	r.Bind, r.Type, r.Other, r.Size = 10, 3, 7, 1<<40
	wantText(t, 32, "", "00000001 T b\n00000000 T a\n", r, row("a", 0, 1))
}
