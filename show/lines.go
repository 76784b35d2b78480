package show

import (
	"strconv"
	"strings"

	"shelf/api"
	"shelf/text"
)

// line puts pieces together to a line.
func line(pieces ...string) string {
	return strings.Join(pieces, "") + "\n"
}

// each is what tell tells of a list's elements, one behind the other.
func each[T any](list []T, tell func(T) string) string {
	var told strings.Builder
	for _, x := range list {
		told.WriteString(tell(x))
	}
	return told.String()
}

func decimal(n int) string { return strconv.Itoa(n) }

// oneByte keeps b a byte: converted by itself it would be taken for a rune, which has two bytes from 0x80 on.
func oneByte(b byte) string { return string([]byte{b}) }

// program is the beginning of a message: ar answers for whatever is not ranlib.
func program(prog int) string {
	if prog == api.Ranlib {
		return "ranlib: "
	}
	return "ar: "
}

// culprit is what a message tells of the name at which something was refused: a refusal at no name has an empty one.
func culprit(name string) string {
	if name == "" {
		return ""
	}
	return text.Quote(name) + ": "
}
