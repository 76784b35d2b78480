package mri

import (
	"slices"
	"strings"

	"shelf/api"
)

// commandOf is what the tokens of a command line say, of which there is one at least.
func commandOf(tokens []string) (api.Mri, api.Errno) {
	number := numberOf(tokens[0])
	if !isVerb(number) {
		return api.Mri{}, api.ErrVerb
	}
	c := api.Mri{Verb: number}
	rest := tokens[1:]
	if verbs[number].named {
		if len(rest) == 0 || isBracket(rest[0]) {
			return api.Mri{}, api.ErrList
		}
		c.Name, rest = rest[0], rest[1:]
	}
	names, ok := namesIn(rest, verbs[number].list)
	if !ok {
		return api.Mri{}, api.ErrList
	}
	c.Names = names
	return c, api.OK
}

// namesIn are the Names, if the tokens are just a list that stands like this.
func namesIn(tokens []string, list int) ([]string, bool) {
	switch {
	case list == bareList && len(tokens) > 0:
		return wordsOf(tokens)
	case list == inBrackets && len(tokens) > 1 && tokens[0] == openBracket && tokens[len(tokens)-1] == endBracket:
		return wordsOf(tokens[1 : len(tokens)-1])
	}
	return nil, list != bareList && len(tokens) == 0
}

// wordsOf is a new list of the tokens, if all of them are words.
func wordsOf(tokens []string) ([]string, bool) {
	if slices.ContainsFunc(tokens, isBracket) {
		return nil, false
	}
	return slices.Clone(tokens), true
}

func isBracket(token string) bool { return token == openBracket || token == endBracket }

// lineOf is a command's line; nothing, if its verb is none.
func lineOf(c api.Mri) string {
	if !isVerb(c.Verb) {
		return ""
	}
	v := verbs[c.Verb]
	line := v.word
	if v.named {
		line += " " + c.Name
	}
	names := strings.Join(c.Names, ", ")
	switch {
	case v.list == bareList:
		line += " " + names
	case v.list == inBrackets && len(c.Names) > 0:
		line += " " + openBracket + names + endBracket
	}
	return line + "\n"
}
