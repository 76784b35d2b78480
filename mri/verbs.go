package mri

import "shelf/api"

// How the Names of a command stand in its line.
const (
	noList     = iota
	bareList   // one or more, with nothing around them
	inBrackets // nothing, or any number of them in parentheses
)

// verb is how a command stands in its line.
type verb struct {
	word  string
	named bool // a Name stands behind the word
	list  int  // how the Names stand behind that
}

// verbs are the verbs by their numbers; there is none of the number 0.
var verbs = [...]verb{
	api.MriCreate:    {"CREATE", true, noList},
	api.MriOpen:      {"OPEN", true, noList},
	api.MriAddMod:    {"ADDMOD", false, bareList},
	api.MriAddLib:    {"ADDLIB", true, inBrackets},
	api.MriDelete:    {"DELETE", false, bareList},
	api.MriReplace:   {"REPLACE", false, bareList},
	api.MriExtract:   {"EXTRACT", false, bareList},
	api.MriList:      {"LIST", false, noList},
	api.MriDirectory: {"DIRECTORY", true, inBrackets},
	api.MriVerbose:   {"VERBOSE", false, noList},
	api.MriClear:     {"CLEAR", false, noList},
	api.MriSave:      {"SAVE", false, noList},
	api.MriEnd:       {"END", false, noList},
}

func isVerb(number int) bool { return number > 0 && number < len(verbs) }

// numberOf is the number of the verb that a word spells; 0: it spells none.
func numberOf(word string) int {
	for number, v := range verbs {
		if spells(word, v.word) {
			return number
		}
	}
	return 0
}

// spells: is the word this verb, in capital or small letters? Only A to Z count: letters of other alphabets that have the same capitals spell no verb.
func spells(word, verb string) bool {
	if len(word) != len(verb) {
		return false
	}
	for at, letter := range verb {
		if capital(word[at]) != byte(letter) {
			return false
		}
	}
	return true
}

func capital(b byte) byte {
	if b >= 'a' && b <= 'z' {
		return b - 'a' + 'A'
	}
	return b
}
