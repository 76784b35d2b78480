package cmd

import (
	"strings"

	"shelf/api"
)

// The long options.
const (
	gnuOption  = "--format=gnu"
	bsdOption  = "--format=bsd"
	thinOption = "--thin"
)

// line is a command line that is being read.
type line struct {
	words   []string // those that are not read yet
	command api.Command
	placed  string // the position's letter as it was written: b and i say the same, and only the one that stood there is told
}

func isLongOption(word string) bool { return strings.HasPrefix(word, "--") }

// isKeyWord: would this word be taken for letters where an operand may stand?
func isKeyWord(word string) bool { return len(word) > 1 && word[0] == '-' }

func isAny(string) bool { return true }

// next takes the next word off the line, if there is one that fits.
func (l *line) next(fits func(word string) bool) (string, bool) {
	if len(l.words) == 0 || !fits(l.words[0]) {
		return "", false
	}
	word := l.words[0]
	l.words = l.words[1:]
	return word, true
}

// readAr reads what stands behind ar, a step at a time, up to the first refusal.
func (l *line) readAr() (string, api.Errno) {
	for _, step := range [4]func(*line) (string, api.Errno){(*line).readOptions, (*line).readKeys, (*line).checkMix, (*line).readOperands} {
		if culprit, e := step(l); e != api.OK {
			return culprit, e
		}
	}
	return "", api.OK
}

// readRanlib reads what stands behind ranlib.
func (l *line) readRanlib() (string, api.Errno) {
	l.command.Prog, l.command.Op = api.Ranlib, 's'
	if culprit, e := l.readKeyWords(ranlibLetters()); e != api.OK {
		return culprit, e
	}
	return l.readOperands()
}

func (l *line) readOptions() (string, api.Errno) {
	for word, ok := l.next(isLongOption); ok; word, ok = l.next(isLongOption) {
		switch word {
		case gnuOption:
			l.command.Kind = api.GNU
		case bsdOption:
			l.command.Kind = api.BSD
		case thinOption:
			l.command.Thin = true
		default:
			return word, api.ErrOption
		}
	}
	return "", api.OK
}

// readKeys reads the key words of ar: the first one is there whatever it looks like.
func (l *line) readKeys() (string, api.Errno) {
	first, ok := l.next(isAny)
	if !ok {
		return "", api.ErrNoOp
	}
	letters := arLetters()
	if culprit, e := l.readLetters(strings.TrimPrefix(first, "-"), letters); e != api.OK {
		return culprit, e
	}
	if culprit, e := l.readKeyWords(letters); e != api.OK {
		return culprit, e
	}
	if l.command.Op == 0 {
		return "", api.ErrNoOp
	}
	return "", api.OK
}

// readKeyWords reads words of letters as long as there are some.
func (l *line) readKeyWords(letters map[rune]act) (string, api.Errno) {
	for word, ok := l.next(isKeyWord); ok; word, ok = l.next(isKeyWord) {
		if culprit, e := l.readLetters(word[1:], letters); e != api.OK {
			return culprit, e
		}
	}
	return "", api.OK
}

func (l *line) checkMix() (string, api.Errno) {
	if letter := misfit(l.command, l.placed); letter != "" {
		return letter, api.ErrMix
	}
	return "", api.OK
}

// readOperands reads the anchor, the archive and the names.
func (l *line) readOperands() (string, api.Errno) {
	if l.command.Pos.Where != api.AtEnd {
		anchor, ok := l.next(isAny)
		if !ok {
			return "", api.ErrNoAnchor
		}
		l.command.Pos.Anchor = anchor
	}
	archive, ok := l.next(isAny)
	if !ok {
		return "", api.ErrNoArchive
	}
	l.command.Archive = archive
	l.command.Names = make([]string, len(l.words))
	copy(l.command.Names, l.words)
	return "", api.OK
}
