package num

import (
	"math"
	"strconv"
	"strings"

	"shelf/api"
)

// readDigits reads a field of digits to the base with blanks behind. The whole field's form is looked at ahead of the number: ErrDigit goes ahead of ErrWide.
func readDigits(field string, base int) (int, api.Errno) {
	count := countDigits(field, base)
	if !isBlank(field[count:]) {
		return 0, api.ErrDigit
	}
	n := 0
	for i := range count {
		digit := int(field[i] - '0')
		if n > (math.MaxInt-digit)/base {
			return 0, api.ErrWide
		}
		n = n*base + digit
	}
	return n, api.OK
}

// countDigits is how many digits to the base the field begins with.
func countDigits(field string, base int) int {
	for i := range len(field) {
		if field[i] < '0' || int(field[i]-'0') >= base {
			return i
		}
	}
	return len(field)
}

// isBlank tells whether s is nothing but blanks.
func isBlank(s string) bool {
	for i := range len(s) {
		if s[i] != ' ' {
			return false
		}
	}
	return true
}

// writeDigits writes v to the base, with blanks behind up to width.
func writeDigits(v, width, base int) (string, api.Errno) {
	if width < 1 || width > api.MaxWidth {
		return "", api.ErrRange
	}
	if v < 0 {
		return "", api.ErrWide
	}
	digits := strconv.FormatInt(int64(v), base)
	if len(digits) > width {
		return "", api.ErrWide
	}
	return digits + strings.Repeat(" ", width-len(digits)), api.OK
}
