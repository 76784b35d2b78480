package cmd_test

import (
	"testing"

	"shelf/api"
)

// 15.7: no anchor, and no archive.
func TestMissingOperands(t *testing.T) {
	for _, key := range []string{"ra", "mb", "ri", "-ma", "r -a", "m -v -i"} {
		wantRefused(t, words("ar "+key), "", api.ErrNoAnchor)
		wantRefused(t, words("ar "+key+" x.o"), "", api.ErrNoArchive)
		wantRefused(t, append(words("ar "+key), ""), "", api.ErrNoArchive)
		wantRefused(t, append(words("ar "+key), "-"), "", api.ErrNoArchive)
	}
	for _, op := range "dmpqrstx" {
		wantRefused(t, list("ar", string(op)), "", api.ErrNoArchive)
		wantRefused(t, list("ar", "-"+string(op), "-v"), "", api.ErrNoArchive)
		wantRefused(t, list("ar", "--format=bsd", "v", "-"+string(op)), "", api.ErrNoArchive)
	}
}

// oddNames are words of all sorts; the last ones begin with - and would be key words in an operand's place.
func oddNames() []string {
	return []string{"", " ", "-", "x.o", "a b", "\n", "\x00", "\xff", "@args", "ar.tmp~", "/", "//", "a/b", "é", "-x", "--", "--thin", "--help", "-\xff"}
}

// 15.7: anchor, archive and names are what they are: whether they can be is not asked.
func TestOperands(t *testing.T) {
	for i, word := range oddNames() {
		wantTaken(t, list("ar", "ra", "x.o", word), ar('r', after("x.o"), archive(word)))
		wantTaken(t, list("ar", "t", "lib.a", word), ar('t', names(word)))
		wantTaken(t, list("ar", "t", "lib.a", word, word, "x.o", word), ar('t', names(word, word, "x.o", word)))
		if i >= 14 {
			continue
		}
		wantTaken(t, list("ar", "t", word), ar('t', archive(word)))
		wantTaken(t, list("ar", "mi", word, "lib.a"), ar('m', before(word)))
		wantTaken(t, list("ar", "ra", word, word, word), ar('r', after(word), archive(word), names(word)))
	}
	all := oddNames()
	wantTaken(t, append(list("ar", "q", "lib.a"), all...), ar('q', names(all...)))
	wantTaken(t, append(list("ranlib", "lib.a"), all...), ranlib(names(all...)))
}

// 15.7: without a position there is no anchor.
func TestNoAnchorWithoutPosition(t *testing.T) {
	for _, op := range []byte("dmpqrstx") {
		wantTaken(t, list("ar", string(op), "x.o", "lib.a"), ar(op, archive("x.o"), names("lib.a")))
	}
}

// 15.7: as many names as there are.
func TestManyNames(t *testing.T) {
	many := make([]string, 100000)
	for i := range many {
		many[i] = oddNames()[i%5]
	}
	wantTaken(t, append(list("ar", "q", "lib.a"), many...), ar('q', names(many...)))
	wantTaken(t, append(list("ar", "rb", "x.o", "lib.a"), many...), ar('r', before("x.o"), names(many...)))
}
