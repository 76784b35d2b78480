package names

import (
	"strings"

	"shelf/api"
	"shelf/num"
)

// say is what the field of a valid name says, where the table has tableSize bytes so far.
func say(kind api.Kind, name string, tableSize int) said {
	switch {
	case kind == api.BSD && isOwnField(name):
		return plain(name)
	case kind == api.BSD:
		return long(len(name))
	case kind == api.GNU && len(name) <= fieldWidth-len(shortEnd):
		return short(name)
	}
	return ref(tableSize)
}

// isOwnField: does the name stand in a BSD archive as it is? One with a blank does not: at its end it would be lost among those that fill up.
func isOwnField(name string) bool {
	return len(name) <= fieldWidth && !strings.Contains(name, blank) && name != symdefField
}

// write is the field that says this.
func write(s said) (string, api.Errno) {
	switch s := s.(type) {
	case short:
		return join(string(s), shortEnd), api.OK
	case plain:
		return string(s), api.OK
	case ref:
		return writeNumber(refMark, int(s))
	case long:
		return writeNumber(longMark, int(s))
	}
	return "", api.ErrName
}

// writeNumber puts a number behind a mark, if the field has room for its digits.
func writeNumber(mark string, n int) (string, api.Errno) {
	digits, e := num.PutDec(n, fieldWidth-len(mark))
	if e != api.OK {
		return "", api.ErrName
	}
	return join(mark, strings.TrimRight(digits, blank)), api.OK
}

// join puts the pieces of a field or of a table's entry together.
func join(pieces ...string) string { return strings.Join(pieces, "") }
