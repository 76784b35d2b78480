package cmd_test

import (
	"strings"
	"testing"

	"shelf/api"
)

// 15.3: a key word with and without its -, and several of them.
func TestKeyWords(t *testing.T) {
	for _, line := range []string{"ar rcv lib.a", "ar -rcv lib.a", "ar r -cv lib.a", "ar -r -cv lib.a", "ar -r -c -v lib.a", "ar rc -v lib.a", "ar -c -r -v lib.a", "ar v -cr lib.a", "ar -v -c -r -v -c lib.a"} {
		wantTaken(t, words(line), ar('r', quiet, verbose))
		wantTaken(t, words(line+" x.o -y -"), ar('r', quiet, verbose, names("x.o", "-y", "-")))
	}
}

// 15.3: only one - at the word's beginning is let go.
func TestOneDash(t *testing.T) {
	wantRefused(t, words("ar r- lib.a"), "-", api.ErrLetter)
	wantRefused(t, words("ar -r- lib.a"), "-", api.ErrLetter)
	wantRefused(t, words("ar r --t lib.a"), "-", api.ErrLetter)
	wantRefused(t, words("ar - --t lib.a"), "-", api.ErrLetter)
	wantRefused(t, words("ar -v -- lib.a"), "-", api.ErrLetter)
}

// 15.3: a first key word that has no letters, and key words behind it.
func TestFirstKeyWordWithoutLetters(t *testing.T) {
	for _, first := range []string{"", "-", "l", "-l"} {
		wantRefused(t, list("ar", first), "", api.ErrNoOp)
		wantRefused(t, list("ar", first, "lib.a"), "", api.ErrNoOp)
		wantRefused(t, list("ar", first, "t", "lib.a"), "", api.ErrNoOp)
		wantRefused(t, list("ar", first, "-"), "", api.ErrNoOp)
		wantRefused(t, list("ar", first, "", "-t", "lib.a"), "", api.ErrNoOp)
		wantRefused(t, list("ar", first, "-", "-t", "lib.a"), "", api.ErrNoOp)
		wantRefused(t, list("ar", first, "-v", "lib.a"), "", api.ErrNoOp)
		wantTaken(t, list("ar", first, "-t", "lib.a"), ar('t'))
		wantTaken(t, list("ar", "--format=bsd", first, "-v", "-t", "lib.a"), ar('t', bsd, verbose))
	}
}

// 15.3: a - alone and an empty word end the key words: they are operands.
func TestWhatEndsTheKeyWords(t *testing.T) {
	wantTaken(t, list("ar", "t", "-"), ar('t', archive("-")))
	wantTaken(t, list("ar", "t", "-", "-v"), ar('t', archive("-"), names("-v")))
	wantTaken(t, list("ar", "-t", "-v", "-", "-z"), ar('t', verbose, archive("-"), names("-z")))
	wantTaken(t, list("ar", "t", ""), ar('t', archive("")))
	wantTaken(t, list("ar", "t", "", "-v"), ar('t', archive(""), names("-v")))
	wantTaken(t, list("ar", "t", "v", "-v"), ar('t', archive("v"), names("-v")))
	wantTaken(t, list("ar", "rb", "-", "-v", "-z"), ar('r', before("-"), archive("-v"), names("-z")))
}

// 15.3: no word is left for a first key word.
func TestNoKeyWord(t *testing.T) {
	wantRefused(t, words("ar"), "", api.ErrNoOp)
	wantRefused(t, words("ar --thin"), "", api.ErrNoOp)
	wantRefused(t, words("ar --format=bsd"), "", api.ErrNoOp)
	wantRefused(t, words("ar --format=bsd --thin --format=gnu --thin"), "", api.ErrNoOp)
}

// 15.3: as many key words, and letters in one of them, as there are.
func TestManyKeyWords(t *testing.T) {
	many := list("ar", strings.Repeat("l", 1000))
	for range 1000 {
		many = append(many, "-vs", "-"+strings.Repeat("Dl", 50))
	}
	wantTaken(t, append(many, "-t", "lib.a"), ar('t', det, verbose))
	wantRefused(t, append(many, "-tlz", "lib.a"), "z", api.ErrLetter)
	wantTaken(t, append(many, "lib.a"), ar('s', det, verbose))
}
