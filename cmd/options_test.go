package cmd_test

import (
	"testing"

	"shelf/api"
)

// 15.2: the last format counts, and GNU if there is none.
func TestFormats(t *testing.T) {
	wantTaken(t, words("ar q lib.a"), ar('q'))
	wantTaken(t, words("ar --format=gnu q lib.a"), ar('q'))
	wantTaken(t, words("ar --format=bsd q lib.a"), ar('q', bsd))
	wantTaken(t, words("ar --format=bsd --format=bsd q lib.a"), ar('q', bsd))
	wantTaken(t, words("ar --format=gnu --format=bsd q lib.a"), ar('q', bsd))
	wantTaken(t, words("ar --format=bsd --format=gnu q lib.a"), ar('q'))
	wantTaken(t, words("ar --format=bsd --format=gnu --format=bsd q lib.a"), ar('q', bsd))
	wantTaken(t, words("ar --format=bsd --format=bsd --format=gnu q lib.a"), ar('q'))
	for _, op := range []byte("dmpqrstx") {
		wantTaken(t, list("ar", "--format=bsd", string(op), "lib.a"), ar(op, bsd))
		wantTaken(t, list("ar", "--format=bsd", "-"+string(op)+"Dv", "lib.a"), ar(op, bsd, det, verbose))
	}
}

// 15.2: --thin is as the letter T, and more than once as once.
func TestThinOption(t *testing.T) {
	for _, line := range []string{"ar --thin q lib.a", "ar --thin --thin q lib.a", "ar --thin qT lib.a", "ar qT lib.a", "ar --thin --format=gnu q lib.a", "ar --format=gnu --thin q lib.a", "ar --format=bsd --thin --format=gnu --thin -q -T lib.a"} {
		wantTaken(t, words(line), ar('q', thin))
	}
	for _, op := range []string{"d", "m", "p", "s", "t", "x"} {
		wantRefused(t, list("ar", "--thin", op, "lib.a"), "T", api.ErrMix)
	}
	wantRefused(t, words("ar --format=bsd --thin r lib.a"), "T", api.ErrMix)
	wantRefused(t, words("ar --format=gnu --thin --format=bsd r lib.a"), "T", api.ErrMix)
}

// 15.2: options that are none, the first of them being told, ahead of everything behind it.
func TestNoOptions(t *testing.T) {
	for _, word := range []string{"--", "---", "--help", "--thin ", "--Thin", "--THIN", "--thi", "--thinn", "--thin=", "--thin=1", "--format", "--format=", "--format=thin", "--format=GNU", "--format=gnu ", "--format=bsd4", "--format=bs", "--Format=bsd", "--format bsd", "--r", "--version", "---thin", "--\xff", "--\x00", "--é"} {
		wantRefused(t, list("ar", word), word, api.ErrOption)
		wantRefused(t, list("ar", word, "t", "lib.a"), word, api.ErrOption)
		wantRefused(t, list("ar", "--thin", "--format=bsd", word, "zz", "--other"), word, api.ErrOption)
		wantRefused(t, list("ar", word, "--thin", "--help", "r", "lib.a"), word, api.ErrOption)
	}
}

// 15.2: options stand behind ar alone: behind the key word they are letters, behind the archive names.
func TestOptionsElsewhere(t *testing.T) {
	wantRefused(t, words("ar r --format=bsd lib.a"), "-", api.ErrLetter)
	wantRefused(t, words("ar -r --thin lib.a"), "-", api.ErrLetter)
	wantRefused(t, words("ar r --"), "-", api.ErrLetter)
	wantTaken(t, words("ar r lib.a --thin -- --help"), ar('r', names("--thin", "--", "--help")))
	wantTaken(t, words("ar ra x.o --help --"), ar('r', after("x.o"), archive("--help"), names("--")))
	wantRefused(t, words("ar ra --thin lib.a"), "-", api.ErrLetter)
}
