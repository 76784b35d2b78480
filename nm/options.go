package nm

import (
	"strings"
	"unicode/utf8"

	"shelf/api"
)

// decode is what is asked for, and of which files.
func decode(args []string) (api.NmOpts, []string, refusal) {
	var o api.NmOpts
	for i, word := range args {
		letters, dashed := strings.CutPrefix(word, "-")
		if !dashed || letters == "" {
			return o, args[i:], refusal{}
		}
		if letter := ask(&o, letters); letter != "" {
			return api.NmOpts{}, nil, refusal{letter, api.ErrNmLetter}
		}
	}
	return api.NmOpts{}, nil, refusal{"", api.ErrNoFile}
}

// ask sets the options of these letters. Its answer is the first one that is no option's, or nothing.
func ask(o *api.NmOpts, letters string) string {
	for at, letter := range letters {
		option := optionOf(o, letter)
		if option == nil {
			_, width := utf8.DecodeRuneInString(letters[at:])
			return letters[at : at+width]
		}
		*option = true
	}
	return ""
}

// optionOf is the option that a letter sets; nil: none.
func optionOf(o *api.NmOpts, letter rune) *bool {
	switch letter {
	case 'A':
		return &o.Prefix
	case 'g':
		return &o.Global
	case 'n':
		return &o.Number
	case 'p':
		return &o.Plain
	case 'r':
		return &o.Reverse
	case 's':
		return &o.Index
	case 'u':
		return &o.Undef
	}
	return nil
}
