package cmd

import (
	"unicode/utf8"

	"shelf/api"
)

// act is what a letter does with the line that is being read.
type act func(l *line, letter rune) api.Errno

// arLetters are the letters of ar.
func arLetters() map[rune]act {
	return map[rune]act{
		'd': (*line).operate,
		'm': (*line).operate,
		'p': (*line).operate,
		'q': (*line).operate,
		'r': (*line).operate,
		't': (*line).operate,
		'x': (*line).operate,
		's': (*line).index,
		'a': (*line).place,
		'b': (*line).place,
		'i': (*line).place,
		'c': (*line).quiet,
		'D': (*line).deterministic,
		'o': (*line).dates,
		'S': (*line).bare,
		'T': (*line).thin,
		'u': (*line).update,
		'v': (*line).verbose,
		'l': (*line).ignore,
	}
}

// ranlibLetters are the letters of ranlib.
func ranlibLetters() map[rune]act {
	return map[rune]act{'D': (*line).deterministic}
}

// readLetters lets each letter of a word do what it does, up to the first that is refused.
func (l *line) readLetters(word string, letters map[rune]act) (string, api.Errno) {
	for at, letter := range word {
		do, ok := letters[letter]
		if !ok {
			do = (*line).unknown
		}
		if e := do(l, letter); e != api.OK {
			return firstLetter(word[at:]), e
		}
	}
	return "", api.OK
}

// firstLetter is the first letter's own bytes: a stray byte and a replacement rune that is written out are the same rune, so the rune itself doesn't tell them.
func firstLetter(word string) string {
	_, size := utf8.DecodeRuneInString(word)
	return word[:size]
}

func (l *line) operate(letter rune) api.Errno {
	if l.command.Op != 0 && l.command.Op != 's' {
		return api.ErrTwoOps
	}
	l.command.Op = byte(letter)
	return api.OK
}

// index makes s the operation only for as long as there is no other: operate writes over it.
func (l *line) index(rune) api.Errno {
	if l.command.Op == 0 {
		l.command.Op = 's'
	}
	return api.OK
}

func (l *line) place(letter rune) api.Errno {
	if l.placed != "" {
		return api.ErrMix
	}
	l.placed = string(letter)
	switch letter {
	case 'a':
		l.command.Pos.Where = api.After
	case 'i':
		fallthrough
	case 'b':
		l.command.Pos.Where = api.Before
	}
	return api.OK
}

func (l *line) quiet(rune) api.Errno {
	l.command.Quiet = true
	return api.OK
}

func (l *line) deterministic(rune) api.Errno {
	l.command.Det = true
	return api.OK
}

func (l *line) dates(rune) api.Errno {
	l.command.Dates = true
	return api.OK
}

func (l *line) bare(rune) api.Errno {
	l.command.Bare = true
	return api.OK
}

func (l *line) thin(rune) api.Errno {
	l.command.Thin = true
	return api.OK
}

func (l *line) update(rune) api.Errno {
	l.command.Update = true
	return api.OK
}

func (l *line) verbose(rune) api.Errno {
	l.command.Verbose = true
	return api.OK
}

func (l *line) ignore(rune) api.Errno { return api.OK }

func (l *line) unknown(rune) api.Errno { return api.ErrLetter }
