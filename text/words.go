package text

import (
	"strings"

	"shelf/api"
)

// hexDigits stand in the order of their values; a capital has the value of its small letter.
const hexDigits = "0123456789abcdef"

func parts(c byte) bool { return c == ' ' || c == '\t' || c == '\n' }

// skipParting is the first place from at on that does not part words.
func skipParting(line string, at int) int {
	for at < len(line) && parts(line[at]) {
		at++
	}
	return at
}

// readWord reads the word that begins at at: the word and the place behind it, or the place of the fault.
func readWord(line string, at int) (string, int, api.Errno) {
	var word []byte
	quoting, opened := false, 0
	for at < len(line) {
		c := line[at]
		switch {
		case c == '"':
			quoting, opened = !quoting, at
			at++
		case c == '\\':
			b, width := readEscape(line[at:])
			if width == 0 {
				return "", at, api.ErrEscape
			}
			word = append(word, b)
			at += width
		case parts(c) && !quoting:
			return string(word), at, api.OK
		default:
			word = append(word, c)
			at++
		}
	}
	if quoting {
		return "", opened, api.ErrQuote
	}
	return string(word), at, api.OK
}

// readEscape reads the escape that s begins with: its byte and its width, which is 0 if it is none.
func readEscape(s string) (byte, int) {
	if len(s) < 2 {
		return 0, 0
	}
	switch s[1] {
	case '"', '\\':
		return s[1], 2
	case 'n':
		return '\n', 2
	case 't':
		return '\t', 2
	case 'x':
		return readHex(s)
	}
	return 0, 0
}

// readHex reads the `\x` and two digits that s begins with, as readEscape does.
func readHex(s string) (byte, int) {
	if len(s) < 4 {
		return 0, 0
	}
	high, low := hexValue(s[2]), hexValue(s[3])
	if high < 0 || low < 0 {
		return 0, 0
	}
	return byte(high<<4 | low), 4
}

// hexValue is the value of a hexadecimal digit, or -1.
func hexValue(c byte) int {
	if c >= 'A' && c <= 'F' {
		c += 'a' - 'A'
	}
	return strings.IndexByte(hexDigits, c)
}
