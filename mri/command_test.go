package mri_test

import (
	"slices"
	"strings"
	"testing"

	"shelf/api"
	"shelf/mri"
)

// word is a verb's word and its number.
type word struct {
	text string
	verb int
}

// Verbs by what stands behind their word.
func oneName() []word { return []word{{"CREATE", 1}, {"OPEN", 2}} }
func someNames() []word {
	return []word{{"ADDMOD", 3}, {"DELETE", 5}, {"REPLACE", 6}, {"EXTRACT", 7}}
}
func nameAndNames() []word { return []word{{"ADDLIB", 4}, {"DIRECTORY", 9}} }
func nothing() []word {
	return []word{{"LIST", 8}, {"VERBOSE", 10}, {"CLEAR", 11}, {"SAVE", 12}, {"END", 13}}
}
func allWords() []word {
	return slices.Concat(oneName(), someNames(), nameAndNames(), nothing())
}

// behind is what stands behind a verb's word in a line that is understood, and its command.
func behind(w word) (string, api.Mri) {
	switch {
	case slices.Contains(oneName(), w), slices.Contains(nameAndNames(), w):
		return " n", of(w.verb, "n")
	case slices.Contains(someNames(), w):
		return " n", of(w.verb, "", "n")
	}
	return "", of(w.verb, "")
}

// mixed is a word with every other letter small.
func mixed(text string) string {
	b := []byte(text)
	for i := range b {
		if i%2 == 1 {
			b[i] |= 0x20
		}
	}
	return string(b)
}

// 19.4: each verb in capital, small and mixed letters.
func TestVerbs(t *testing.T) {
	for _, w := range allWords() {
		rest, want := behind(w)
		small := strings.ToLower(w.text)
		for _, text := range []string{w.text, small, mixed(w.text), w.text[:1] + small[1:], small[:1] + w.text[1:]} {
			wantDecode(t, text+rest, want)
		}
	}
}

// 19.4: a first token that is a bit more, less or other than a verb is none: ErrVerb, whatever stands behind it.
func TestNoVerbs(t *testing.T) {
	for _, w := range allWords() {
		rest, _ := behind(w)
		near := []string{w.text + "S", w.text[1:], w.text[:len(w.text)-1], "+" + w.text, w.text + "\x00", "\x00" + w.text, "\"" + w.text + "\"", w.text + "\xff", w.text + w.text}
		for at := range w.text {
			for _, bit := range []byte{0x01, 0x40, 0x60, 0x80} {
				b := []byte(w.text)
				b[at] ^= bit
				if s := string(b); !strings.ContainsAny(s, " \t\r\n,()*;") {
					near = append(near, s)
				}
			}
		}
		for _, text := range near {
			wantNo(t, text+rest, 1, api.ErrVerb)
			wantNo(t, text+" ( ( x", 1, api.ErrVerb)
		}
	}
	for _, text := range []string{"FOO", "(", ")", "(LIST)", "( LIST", "+ +\n\n", "L IST", "\xff", "HELP", "ADDMODULE a", "1", "END."} {
		wantNo(t, text, 1, api.ErrVerb)
	}
}

// 19.4: letters that are not A to Z spell no verb, though other alphabets' letters have these as their capitals.
func TestOtherAlphabets(t *testing.T) {
	for _, text := range []string{"liſt", "ſave", "verboſe", "lıst", "LİST", "ＬＩＳＴ", "cleaR\u0301", "ЕND"} {
		wantNo(t, text, 1, api.ErrVerb)
	}
}

// 19.4: CREATE and OPEN have one word behind them.
func TestOneName(t *testing.T) {
	for _, w := range oneName() {
		wantDecode(t, w.text+" a", of(w.verb, "a"))
		wantDecode(t, w.text+" "+w.text, of(w.verb, w.text))
		for _, rest := range []string{"", " a b", " (a)", " (", " )", " a (", " a ()", " a (b)", "(a", " a )", " + +\n+ b"} {
			wantNo(t, w.text+rest, 1, api.ErrList)
		}
	}
}

// 19.4: ADDMOD, DELETE, REPLACE and EXTRACT have one word or more behind them.
func TestSomeNames(t *testing.T) {
	for _, w := range someNames() {
		wantDecode(t, w.text+" a", of(w.verb, "", "a"))
		wantDecode(t, w.text+" a b a "+w.text, of(w.verb, "", "a", "b", "a", w.text))
		for _, rest := range []string{"", " (a)", " ()", " a (b)", " a )", " ( a", " a ( b", ")", " a b ("} {
			wantNo(t, w.text+rest, 1, api.ErrList)
		}
	}
}

// 19.4: ADDLIB and DIRECTORY have one word behind them, and then nothing or words in parentheses, none too.
func TestNameAndNames(t *testing.T) {
	for _, w := range nameAndNames() {
		for _, rest := range []string{" l", " l ()", " l( , )"} {
			wantDecode(t, w.text+rest, of(w.verb, "l"))
		}
		wantDecode(t, w.text+" l (a)", of(w.verb, "l", "a"))
		wantDecode(t, w.text+" l (a b, a "+w.text+")", of(w.verb, "l", "a", "b", "a", w.text))
		for _, rest := range []string{"", " ()", " (a)", " l a", " l a b", " l (", " l )", " l (a", " l a)", " l (a) b", " l (a) (b)", " l (a))", " l ((a)", " l ((a))", " l )a(", " l ()()", " l )(", " l m (a)", "( l (a)", " l (a) (", " l a (b)", " l (a b"} {
			wantNo(t, w.text+rest, 1, api.ErrList)
		}
	}
}

// 19.4: LIST, VERBOSE, CLEAR, SAVE and END have nothing behind them.
func TestNothing(t *testing.T) {
	for _, w := range nothing() {
		wantDecode(t, w.text, of(w.verb, ""))
		for _, rest := range []string{" a", " ()", " (a)", "(", ")", " + a", " " + w.text} {
			wantNo(t, w.text+rest, 1, api.ErrList)
		}
	}
}

// 19.5: the commands are in order, those behind an END too.
func TestOrder(t *testing.T) {
	text, want := "", []api.Mri(nil)
	for range 2 {
		for _, w := range allWords() {
			rest, c := behind(w)
			text += w.text + rest + "\n"
			want = append(want, c)
		}
	}
	wantDecode(t, text, want...)
	wantDecode(t, "END\nEND\nDELETE a", of(api.MriEnd, ""), of(api.MriEnd, ""), del("a"))
}

// 19.5: the first line that is refused is told, with its own Errno; also behind an END.
func TestFirstRefused(t *testing.T) {
	wantNo(t, "FOO\nDELETE", 1, api.ErrVerb)
	wantNo(t, "DELETE\nFOO", 1, api.ErrList)
	wantNo(t, "LIST\n\nDELETE\nFOO\n", 3, api.ErrList)
	wantNo(t, "LIST\nDELETE a\nFOO\nDELETE\n", 3, api.ErrVerb)
	wantNo(t, "END\nFOO", 2, api.ErrVerb)
	wantNo(t, "SAVE\nEND\n\nLIST x", 4, api.ErrList)
}

// 19.5, R4: the lists are new memory: what is done with one answer, its spare room included, changes neither another list of it nor a later answer.
func TestNewMemory(t *testing.T) {
	const text = "DELETE a b\nADDLIB l (c d)\nDELETE e +\nf\nDIRECTORY m (g)\nDELETE h"
	read := func() []api.Mri {
		got, _, _ := mri.Decode(text)
		return got
	}
	got := read()
	for i := range got {
		names := got[i].Names[:cap(got[i].Names)]
		for k := range names {
			names[k] = "spoilt"
		}
		got[i].Names = append(got[i].Names, "spoilt")
		for j := i + 1; j < len(got); j++ {
			if slices.Contains(got[j].Names, "spoilt") {
				t.Errorf("19.5: list %d shares memory with list %d", i, j)
			}
		}
	}
	clear(got[:cap(got)])
	want := []api.Mri{del("a", "b"), of(api.MriAddLib, "l", "c", "d"), del("e", "f"), of(api.MriDirectory, "m", "g"), del("h")}
	if again := read(); !same(again, want) {
		t.Errorf("19.5: a second answer is %+v", again)
	}
}
