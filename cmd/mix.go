package cmd

import (
	"strings"

	"shelf/api"
)

// mark is a letter, and whether what is asked of it holds.
type mark struct {
	letter string
	holds  bool
}

// isOneOf tells whether an operation is among these.
func isOneOf(op byte, operations string) bool { return strings.IndexByte(operations, op) >= 0 }

// misfit is the first letter that doesn't go together with the rest of the command; empty: all do. placed is the position's letter, empty if there is none.
func misfit(c api.Command, placed string) string {
	marks := [8]mark{
		{placed, placed != "" && !isOneOf(c.Op, "mr")},
		{"u", c.Update && c.Op != 'r'},
		{"u", c.Update && c.Det},
		{"T", c.Thin && !isOneOf(c.Op, "rq")},
		{"T", c.Thin && c.Kind == api.BSD},
		{"o", c.Dates && c.Op != 'x'},
		{"c", c.Quiet && !isOneOf(c.Op, "rq")},
		{"S", c.Bare && !isOneOf(c.Op, "dmqr")},
	}
	for _, m := range marks {
		if m.holds {
			return m.letter
		}
	}
	return ""
}

// flagLetters are the letters of the flags that are set, in the order of a line.
func flagLetters(c api.Command) string {
	letters := ""
	for _, m := range [7]mark{{"c", c.Quiet}, {"D", c.Det}, {"o", c.Dates}, {"S", c.Bare}, {"T", c.Thin}, {"u", c.Update}, {"v", c.Verbose}} {
		if m.holds {
			letters += m.letter
		}
	}
	return letters
}

// placeLetter is a position's letter; not ok: there is no such position.
func placeLetter(where int) (string, bool) {
	switch where {
	case api.AtEnd:
		return "", true
	case api.After:
		return "a", true
	case api.Before:
		return "b", true
	}
	return "", false
}
