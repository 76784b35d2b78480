package text

import (
	"strings"
	"unicode/utf8"
)

// maxPad bounds what padding fills, so that no n asks for endless blanks.
const maxPad = 256

// isStray tells whether r, which range gave for the beginning of s, stands for a stray byte: range gives the same rune for one that is written out.
func isStray(s string, r rune) bool {
	return r == utf8.RuneError && !strings.HasPrefix(s, string(utf8.RuneError))
}

// isPlain tells whether r, the first rune of s, stands in a name as it is, without quotes.
func isPlain(s string, r rune) bool {
	if isStray(s, r) || r == '"' || r == '\\' {
		return false
	}
	return r > ' ' && r < 0x7f || r > 0x9f
}

func isPlainName(name string) bool {
	for at, r := range name {
		if !isPlain(name[at:], r) {
			return false
		}
	}
	return name != ""
}

// writeRune writes r, the first rune of s, as it stands between quotes.
func writeRune(quoted *strings.Builder, s string, r rune) {
	switch {
	case isStray(s, r):
		writeHex(quoted, s[0])
	case r == ' ' || isPlain(s, r):
		quoted.WriteRune(r)
	case r == '"' || r == '\\':
		quoted.WriteByte('\\')
		quoted.WriteRune(r)
	case r == '\n':
		quoted.WriteString(`\n`)
	case r == '\t':
		quoted.WriteString(`\t`)
	default:
		for i := range utf8.RuneLen(r) {
			writeHex(quoted, s[i])
		}
	}
}

func writeHex(quoted *strings.Builder, b byte) {
	quoted.WriteString(`\x`)
	quoted.WriteByte(hexDigits[b>>4])
	quoted.WriteByte(hexDigits[b&0xf])
}

// countRunes counts the runes of s, each stray byte as one.
func countRunes(s string) int {
	n := 0
	for range s {
		n++
	}
	return n
}

// padding is the blanks that s lacks to n runes.
func padding(s string, n int) string {
	lack := min(max(n, 0), maxPad) - countRunes(s)
	return strings.Repeat(" ", max(lack, 0))
}
