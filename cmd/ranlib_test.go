package cmd_test

import (
	"testing"

	"shelf/api"
)

// 15.8: archives, and D as often as it stands there.
func TestRanlib(t *testing.T) {
	wantTaken(t, words("ranlib lib.a"), ranlib())
	wantTaken(t, words("ranlib lib.a b.a lib.a"), ranlib(names("b.a", "lib.a")))
	for _, line := range []string{"ranlib -D lib.a", "ranlib -DD lib.a", "ranlib -D -D lib.a", "ranlib -DDD -D -DD lib.a"} {
		wantTaken(t, words(line), ranlib(det))
		wantTaken(t, words(line+" b.a -D"), ranlib(det, names("b.a", "-D")))
	}
}

// 15.8: a - alone and an empty word are archives, and so is everything behind an archive.
func TestRanlibOperands(t *testing.T) {
	wantTaken(t, list("ranlib", "-"), ranlib(archive("-")))
	wantTaken(t, list("ranlib", ""), ranlib(archive("")))
	wantTaken(t, list("ranlib", "", "-D"), ranlib(archive(""), names("-D")))
	wantTaken(t, list("ranlib", "-", "-D", "--help", ""), ranlib(archive("-"), names("-D", "--help", "")))
	wantTaken(t, list("ranlib", "-D", "-", "-D"), ranlib(det, archive("-"), names("-D")))
	wantTaken(t, list("ranlib", "D", "-z"), ranlib(archive("D"), names("-z")))
	wantTaken(t, list("ranlib", "rc", "s"), ranlib(archive("rc"), names("s")))
	wantRefused(t, words("ranlib"), "", api.ErrNoArchive)
	wantRefused(t, words("ranlib -D"), "", api.ErrNoArchive)
	wantRefused(t, words("ranlib -D -DD"), "", api.ErrNoArchive)
}

// 15.8: every other letter, of ar's too, and every long option.
func TestRanlibLetters(t *testing.T) {
	letters := oddLetters()
	for _, letter := range "abcdilmopqrstuvxST" {
		letters = append(letters, string(letter))
	}
	for _, letter := range letters {
		if letter == "D" {
			t.Fatal("D is a letter of ranlib")
		}
		wantRefused(t, list("ranlib", "-"+letter), letter, api.ErrLetter)
		wantRefused(t, list("ranlib", "-"+letter, "lib.a"), letter, api.ErrLetter)
		wantRefused(t, list("ranlib", "-D"+letter+"D", "lib.a"), letter, api.ErrLetter)
		wantRefused(t, list("ranlib", "-DD", "-D", "-"+letter+"z", "-y"), letter, api.ErrLetter)
	}
	for _, option := range []string{"--", "--help", "--thin", "--format=bsd", "--D", "---"} {
		wantRefused(t, list("ranlib", option), "-", api.ErrLetter)
		wantRefused(t, list("ranlib", option, "lib.a"), "-", api.ErrLetter)
		wantRefused(t, list("ranlib", "-D", option, "-z", "lib.a"), "-", api.ErrLetter)
	}
}
