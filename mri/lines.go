package mri

import "strings"

// Tokens that are no words.
const (
	openBracket = "("
	endBracket  = ")"
)

// plus ends a line that goes on in the next one.
const plus = "+"

// commandLine is the tokens of a line and of those that it is continued by.
type commandLine struct {
	number int // of the first of these lines
	tokens []string
}

// commandLines are a text's command lines in order, those without tokens too.
func commandLines(text string) []commandLine {
	var list []commandLine
	number := 0
	continued := false
	for line := range strings.Lines(text) {
		number++
		if !continued {
			list = append(list, commandLine{number: number})
		}
		tokens := tokensOf(strings.TrimSuffix(line, "\n"))
		// The line's own end counts: a '+' that was gathered from another line is a name.
		continued = isContinued(tokens)
		if continued {
			tokens = tokens[:len(tokens)-1]
		}
		last := &list[len(list)-1]
		last.tokens = append(last.tokens, tokens...)
	}
	return list
}

// isContinued: do the tokens of a line say that the next line belongs to it?
func isContinued(tokens []string) bool {
	return len(tokens) > 0 && tokens[len(tokens)-1] == plus
}

// tokensOf are a line's words and parentheses, up to the remark. A parenthesis is never part of a word, so the text of a token tells which of the two it is.
func tokensOf(line string) []string {
	var tokens []string
	begin := 0
	endWord := func(at int) {
		if begin < at {
			tokens = append(tokens, line[begin:at])
		}
		begin = at + 1
	}
	for at, letter := range line {
		switch letter {
		case ' ', '\t', '\r', ',':
			endWord(at)
		case '(', ')':
			endWord(at)
			tokens = append(tokens, line[at:at+1])
		case '*', ';':
			endWord(at)
			return tokens
		}
	}
	endWord(len(line))
	return tokens
}
