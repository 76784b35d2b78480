package cmd_test

import (
	"strings"
	"testing"

	"shelf/api"
)

// 15.4: each of the seven says what is done, and no other one may stand behind it.
func TestOperations(t *testing.T) {
	for _, op := range "dmpqrtx" {
		wantTaken(t, list("ar", string(op), "lib.a"), ar(byte(op)))
		wantTaken(t, list("ar", "-"+string(op), "lib.a", string(op)), ar(byte(op), names(string(op))))
		for _, other := range "dmpqrtx" {
			first, second := string(op), string(other)
			wantRefused(t, list("ar", first+second, "lib.a"), second, api.ErrTwoOps)
			wantRefused(t, list("ar", first, "-"+second, "lib.a"), second, api.ErrTwoOps)
			wantRefused(t, list("ar", "s"+first+"svls"+second+first), second, api.ErrTwoOps)
			wantRefused(t, list("ar", "-", "-v", "-"+first, "-s", "-"+second+"z"), second, api.ErrTwoOps)
		}
	}
}

// 15.4: s is the operation only where none of the seven stands.
func TestLetterS(t *testing.T) {
	for _, key := range []string{"s", "-s", "ss", "sls", "lls", "s -s"} {
		wantTaken(t, words("ar "+key+" lib.a"), ar('s'))
	}
	for _, op := range "dmpqrtx" {
		for _, key := range []string{"Os", "sO", "sOs", "ssOss", "s -O", "O -s", "s -O -s", "-s -l -O"} {
			wantTaken(t, words("ar "+strings.ReplaceAll(key, "O", string(op))+" lib.a"), ar(byte(op)))
		}
	}
}

// 15.4: the position's letters, and a second one.
func TestPositions(t *testing.T) {
	for _, op := range "mr" {
		for letter, at := range map[string]func(*api.Command){"a": after("x.o"), "b": before("x.o"), "i": before("x.o")} {
			wantTaken(t, list("ar", string(op)+letter, "x.o", "lib.a"), ar(byte(op), at))
			wantTaken(t, list("ar", letter+string(op), "x.o", "lib.a", "y.o"), ar(byte(op), at, names("y.o")))
			wantTaken(t, list("ar", "-v"+letter, "-"+string(op), "x.o", "lib.a"), ar(byte(op), at, verbose))
			for _, other := range []string{"a", "b", "i"} {
				wantRefused(t, list("ar", string(op)+letter+other, "x.o", "lib.a"), other, api.ErrMix)
				wantRefused(t, list("ar", letter, "-vs", "-"+other+letter), other, api.ErrMix)
				wantRefused(t, list("ar", "t"+letter+other+"z"), other, api.ErrMix)
			}
		}
	}
}

// 15.4: each flag, more than once being as once, and l, which says nothing.
func TestFlags(t *testing.T) {
	ops := map[string]byte{"c": 'r', "D": 'x', "o": 'x', "S": 'd', "T": 'q', "u": 'r', "v": 'p'}
	for letter, set := range flags() {
		op := ops[letter]
		for _, key := range []string{"OF", "FO", "OFF", "FOFF", "O -F", "F -O", "-F -FO -F", "FlO", "lllOFlll"} {
			key = strings.NewReplacer("O", string(op), "F", letter).Replace(key)
			wantTaken(t, words("ar "+key+" lib.a"), ar(op, set))
		}
	}
	wantTaken(t, words("ar vTScr lib.a"), ar('r', verbose, thin, bare, quiet))
	wantTaken(t, words("ar rSDcT lib.a"), ar('r', bare, det, quiet, thin))
	wantTaken(t, words("ar ucrvS lib.a"), ar('r', update, quiet, verbose, bare))
	wantTaken(t, words("ar oxDv lib.a"), ar('x', dates, det, verbose))
}

// 15.4: what is no letter, told by its own bytes, wherever it stands.
func TestNoLetters(t *testing.T) {
	for _, odd := range oddLetters() {
		if odd != "-" {
			wantRefused(t, list("ar", odd), odd, api.ErrLetter)
			wantRefused(t, list("ar", odd+"r", "lib.a"), odd, api.ErrLetter)
			wantRefused(t, list("ar", "-"+odd+odd+"z", "lib.a"), odd, api.ErrLetter)
		}
		wantRefused(t, list("ar", "r"+odd, "lib.a"), odd, api.ErrLetter)
		wantRefused(t, list("ar", "r"+odd+"r", "lib.a"), odd, api.ErrLetter)
		wantRefused(t, list("ar", "vTuu"+odd+odd), odd, api.ErrLetter)
		wantRefused(t, list("ar", "r", "-"+odd, "lib.a"), odd, api.ErrLetter)
		wantRefused(t, list("ar", "ra", "-sv"+odd+"b", "lib.a"), odd, api.ErrLetter)
	}
}

// 15.4: bytes that look like the beginning of a rune and are none are letters one by one; a replacement rune that is written out is one of three bytes.
func TestStrayBytes(t *testing.T) {
	for _, x := range [][2]string{
		{"\xe2\x82", "\xe2"}, {"\xe2\x82r", "\xe2"}, {"\xe2r", "\xe2"}, {"\xc3", "\xc3"}, {"\xc3r", "\xc3"}, {"\xf0\x9f\x98", "\xf0"},
		{"\xed\xa0\x80", "\xed"}, {"\xed\xbf\xbf", "\xed"}, {"\xc0\x80", "\xc0"}, {"\xc1\xbf", "\xc1"}, {"\xe0\x80\x80", "\xe0"}, {"\xf0\x80\x80\x80", "\xf0"}, {"\xf4\x90\x80\x80", "\xf4"},
		{"\xbf\xbd", "\xbf"}, {"\xef\xbf", "\xef"}, {"\xef\xbfr", "\xef"}, {"\xef\xbf\xbd", "\ufffd"}, {"\ufffd\xff", "\ufffd"}, {"\xff\ufffd", "\xff"}, {"\xef\ufffd", "\xef"},
		{"é\x80", "é"}, {"€\x80", "€"}, {"😀\x80", "😀"}, {"e\u0301", "e"}, {"\u0301", "\u0301"},
	} {
		wantRefused(t, list("ar", "r"+x[0], "lib.a"), x[1], api.ErrLetter)
		wantRefused(t, list("ar", x[0]), x[1], api.ErrLetter)
		wantRefused(t, list("ar", "r", "-v"+x[0], "lib.a"), x[1], api.ErrLetter)
		wantRefused(t, list("ranlib", "-"+x[0], "lib.a"), x[1], api.ErrLetter)
		wantRefused(t, list("ranlib", "-D", "-D"+x[0]), x[1], api.ErrLetter)
	}
}

// 15.4: a letter's case, and letters of ar that mean nothing here.
func TestOtherLetters(t *testing.T) {
	for _, letter := range "ABCILMOPQRUVXNPefgjkwyz0" {
		wantRefused(t, list("ar", "r"+string(letter), "lib.a"), string(letter), api.ErrLetter)
	}
}

// 15.4: the letters are read from the left, and the first that is refused is told, ahead of everything behind it.
func TestFirstLetterRefused(t *testing.T) {
	wantRefused(t, words("ar rxz lib.a"), "x", api.ErrTwoOps)
	wantRefused(t, words("ar rzx lib.a"), "z", api.ErrLetter)
	wantRefused(t, words("ar rabx lib.a"), "b", api.ErrMix)
	wantRefused(t, words("ar raxb lib.a"), "x", api.ErrTwoOps)
	wantRefused(t, words("ar tuDTz lib.a"), "z", api.ErrLetter)
	wantRefused(t, words("ar tu -DTd lib.a"), "d", api.ErrTwoOps)
	wantRefused(t, words("ar vz"), "z", api.ErrLetter)
	wantRefused(t, words("ar ra -z"), "z", api.ErrLetter)
	wantRefused(t, words("ar v -v -z"), "z", api.ErrLetter)
}

// 15.5: letters with no operation among them, whatever else stands there.
func TestNoOperation(t *testing.T) {
	for _, key := range []string{"v", "-v", "D", "c", "o", "S", "T", "u", "l", "a", "b", "i", "vcDoSTul", "avTuDoS", "v -D -l", "-a -u -T", "uD", "To"} {
		wantRefused(t, words("ar "+key), "", api.ErrNoOp)
		wantRefused(t, words("ar "+key+" lib.a"), "", api.ErrNoOp)
		wantRefused(t, words("ar "+key+" x.o lib.a y.o"), "", api.ErrNoOp)
		wantRefused(t, words("ar --thin --format=bsd "+key+" t lib.a"), "", api.ErrNoOp)
	}
	wantTaken(t, words("ar v -D -s lib.a"), ar('s', verbose, det))
}
