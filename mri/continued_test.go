package mri_test

import (
	"strings"
	"testing"

	"shelf/api"
)

// 19.3: a line whose last token is '+' goes on in the next one, once or several times.
func TestContinued(t *testing.T) {
	wantDecode(t, "DELETE a +\nb", del("a", "b"))
	wantDecode(t, "DELETE a, +\nb +\nc\nLIST", del("a", "b", "c"), list)
	wantDecode(t, "DELETE +\na", del("a"))
	wantDecode(t, "+\nDELETE +\n+\n+\na +\n", del("a"))
	wantDecode(t, "ADDLIB +\nl +\n( +\nx +\n, y +\n) +\n\nLIST", of(api.MriAddLib, "l", "x", "y"), list)
}

// 19.3: parts of the line beside its last token do not matter: remarks, what parts tokens, a parenthesis ahead of the '+'.
func TestWhatEndsTheLine(t *testing.T) {
	wantDecode(t, "DELETE a + * x\nb", del("a", "b"))
	wantDecode(t, "DELETE a +; x +\nb", del("a", "b"))
	wantDecode(t, "DELETE a ;+\nLIST", del("a"), list)
	wantDecode(t, "DELETE a +,\t\r\nb", del("a", "b"))
	wantDecode(t, "ADDLIB l (+\nx)", of(api.MriAddLib, "l", "x"))
	wantDecode(t, "ADDLIB l (x)+\n\n", of(api.MriAddLib, "l", "x"))
}

// 19.3: behind the last line nothing follows.
func TestContinuedAtTheEnd(t *testing.T) {
	wantDecode(t, "DELETE a +", del("a"))
	wantDecode(t, "DELETE a +\n", del("a"))
	wantDecode(t, "LIST +\n+", list)
	wantNo(t, "LIST\nDELETE +", 2, api.ErrList)
	wantNo(t, "LIST\nDELETE +\n", 2, api.ErrList)
}

// 19.3: each line's own last token counts, not what has been gathered; and one alone is dropped.
func TestOwnLastToken(t *testing.T) {
	wantDecode(t, "DELETE + +\n\nLIST", del("+"), list)
	wantDecode(t, "DELETE + +\n*\nLIST", del("+"), list)
	wantDecode(t, "DELETE + +\nLIST", del("+", "LIST"))
	wantDecode(t, "DELETE + + +\n+ +\n\nLIST", del("+", "+", "+"), list)
	wantDecode(t, "DELETE a +\n\nLIST", del("a"), list)
	wantDecode(t, "DELETE a +\n  ,\nLIST", del("a"), list)
}

// 19.3: a '+' elsewhere, or within a longer word, is a word like any other.
func TestOtherPluses(t *testing.T) {
	wantDecode(t, "DELETE + a", del("+", "a"))
	wantDecode(t, "DELETE a + b\nLIST", del("a", "+", "b"), list)
	wantDecode(t, "DELETE a+\nLIST", del("a+"), list)
	wantDecode(t, "DELETE +a\nLIST", del("+a"), list)
	wantDecode(t, "DELETE ++\nLIST", del("++"), list)
	wantDecode(t, "DELETE \x00+\nLIST", del("\x00+"), list)
	wantDecode(t, "ADDLIB + (+)\nLIST", of(api.MriAddLib, "+", "+"), list)
	wantDecode(t, "CREATE + +\n\nLIST", of(api.MriCreate, "+"), list)
	wantNo(t, "+ LIST", 1, api.ErrVerb)
	wantNo(t, "DELETE +)", 1, api.ErrList)
}

// 19.3: a command line without tokens is let go, whatever lines it is made of.
func TestNoTokens(t *testing.T) {
	for _, text := range []string{"+", "+\n", "+\n+", "+\n+\n\n", "+\n*\n", "+ ; x\n , \n", "\n+\n\n+"} {
		wantDecode(t, text)
		wantDecode(t, text+"\n\nLIST", list)
	}
}

// 19.3: a continued command line has the number of its first line, and those behind it theirs.
func TestNumberOfContinued(t *testing.T) {
	for n := range 4 {
		more := strings.Repeat("+\n", n)
		wantNo(t, "\n+\n"+more+"FOO", 2, api.ErrVerb)
		wantNo(t, "\nLIST +\n"+more+"x\nFOO", 2, api.ErrList)
		wantNo(t, "LIST +\n"+more+"\nFOO", n+3, api.ErrVerb)
		wantNo(t, "+\n"+more+"\nDELETE", n+3, api.ErrList)
	}
}
