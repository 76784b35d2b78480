package cmd_test

import (
	"strings"
	"testing"

	"shelf/api"
)

// 15.1: no word at all.
func TestNoWord(t *testing.T) {
	wantRefused(t, nil, "", api.ErrProgram)
	wantRefused(t, list(), "", api.ErrProgram)
	wantRefused(t, words("ar t lib.a")[:0], "", api.ErrProgram)
}

// 15.1: words that are no program, whatever stands behind them.
func TestPrograms(t *testing.T) {
	for _, p := range []string{"", " ", "a", "r", "AR", "Ar", "aR", "RANLIB", "Ranlib", "/bin/ar", "/usr/bin/ranlib", "./ar", "bin/ar", "ar/", "ar ", " ar", "ar\n", "ar\x00", "arr", "ranli", "ranlibs", "ranlib.exe", "ar.exe", "-ar", "--thin", "t", "nm", "ａr", "ar\xff", "\xff", "lib.a", "ar t lib.a", strings.Repeat("ar", 1000)} {
		wantRefused(t, list(p), p, api.ErrProgram)
		wantRefused(t, list(p, "t", "lib.a"), p, api.ErrProgram)
		wantRefused(t, list(p, "ar", "t", "lib.a"), p, api.ErrProgram)
		wantRefused(t, list(p, "--help", "zz"), p, api.ErrProgram)
	}
}

// 15.1: the two that are, and each reads its own words.
func TestArAndRanlib(t *testing.T) {
	wantTaken(t, words("ar t lib.a"), ar('t'))
	wantTaken(t, words("ar t ar ranlib"), ar('t', archive("ar"), names("ranlib")))
	wantTaken(t, words("ranlib ar ranlib"), ranlib(archive("ar"), names("ranlib")))
	wantTaken(t, words("ranlib t lib.a"), ranlib(archive("t"), names("lib.a")))
	wantRefused(t, words("ar ranlib"), "n", api.ErrLetter)
}
