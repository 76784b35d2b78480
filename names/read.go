package names

import (
	"strings"

	"shelf/api"
	"shelf/num"
)

// read is what a field of at most fieldWidth bytes says; nil, if it has no form.
func read(field string) said {
	switch field {
	case indexField:
		return special(api.FieldIndex)
	case index64Field:
		return special(api.FieldIndex64)
	case tableField:
		return special(api.FieldTable)
	case symdefField:
		return special(api.FieldSymdef)
	}
	if Valid(field) {
		return plain(field)
	}
	if name, ok := strings.CutSuffix(field, shortEnd); ok && Valid(name) {
		return short(name)
	}
	if n, ok := readNumber(field, refMark); ok {
		return ref(n)
	}
	if n, ok := readNumber(field, longMark); ok {
		return long(n)
	}
	return nil
}

// readNumber reads the digits behind a mark. How many there may be need not be asked: a field has no room for more.
func readNumber(field, mark string) (int, bool) {
	digits, ok := strings.CutPrefix(field, mark)
	if !ok || digits == "" || strings.HasSuffix(digits, blank) { // num.Dec takes blanks behind, and no digit at all
		return 0, false
	}
	n, e := num.Dec(digits)
	return n, e == api.OK
}
