package show_test

import (
	"math"
	"testing"

	"shelf/api"
)

// 14.5: ranlib speaks for itself, ar for every other number.
func TestMessagePrograms(t *testing.T) {
	wantMessage(t, api.Ar, "lib.a", api.ErrMagic, "ar: lib.a: not an archive\n")
	wantMessage(t, api.Ranlib, "lib.a", api.ErrMagic, "ranlib: lib.a: not an archive\n")
	for _, prog := range []int{2, 3, 7, 255, 256, 257, 1 << 32, 1<<32 + 1, -1, -2, math.MaxInt, math.MinInt, math.MinInt + 1} {
		wantMessage(t, prog, "lib.a", api.ErrMagic, "ar: lib.a: not an archive\n")
		wantMessage(t, prog, "", api.ErrMagic, "ar: not an archive\n")
	}
}

// 14.5: a name is told if there is one, quoted where it must be.
func TestMessageNames(t *testing.T) {
	wantMessage(t, api.Ar, "", api.ErrNoOp, "ar: no operation given\n")
	wantMessage(t, api.Ranlib, "", api.ErrNoArchive, "ranlib: no archive named\n")
	for _, name := range quotedNames() {
		if name[0] == "" {
			continue
		}
		wantMessage(t, api.Ar, name[0], api.ErrNoMember, "ar: "+name[1]+": no such member\n")
		wantMessage(t, api.Ranlib, name[0], api.OK, "ranlib: "+name[1]+": no error\n")
	}
}

// said are the errors of all layers and their words.
func said() map[api.Errno]string {
	return map[api.Errno]string{
		0: "no error", 10: "not a number", 11: "number too wide", 12: "argument out of range", 20: "quote not closed", 21: "bad escape",
		30: "no such file", 31: "no space left", 32: "bad file name", 33: "directory full", 34: "no such file body",
		40: "input/output error", 41: "power is off", 42: "file closed",
		50: "not ELF", 51: "bad ELF class", 52: "bad ELF byte order", 53: "bad ELF version", 54: "ELF file truncated", 55: "bad entry size", 56: "bad string offset", 57: "no such section",
		60: "no string table", 70: "header truncated", 71: "bad header end", 72: "bad header field", 80: "bad member name", 81: "bad long name",
		90: "not an archive", 91: "member truncated", 92: "bad padding", 93: "misplaced special member", 94: "mixed name forms",
		100: "bad member size", 101: "bad index form", 110: "bad index", 111: "offset too large", 112: "no such symbol", 130: "no such member", 131: "no such position member",
		150: "unknown program", 151: "no operation given", 152: "two operations given", 153: "unknown key letter", 154: "unknown option",
		155: "key letters do not go together", 156: "no archive named", 157: "no position member named",
		160: "written but not known to be durable", 161: "reserved name",
		170: "regular and thin do not mix", 171: "cannot extract from a thin archive", 172: "member file missing", 173: "member file changed",
		180: "archive has no index; run ranlib to add one", 190: "unknown command", 191: "no open archive", 192: "bad module list",
		200: "unknown option letter", 201: "no file named", 210: "input contains a loop", 220: "archive damaged",
		230: "bad second linker member", 231: "the two indexes differ", 240: "index not sorted", 241: "member data not aligned",
		250: "unknown archive style", 260: "unknown step", 261: "bad number",
	}
}

// 14.5: each error's words, and those of a number that is no error's.
func TestMessageWords(t *testing.T) {
	words := said()
	for code := api.Errno(-300); code <= 600; code++ {
		want, ok := words[code]
		if !ok {
			want = "unknown error"
		}
		if got := code.Error(); got != want {
			t.Errorf("the words of %d are %q, not %q", code, got, want)
		}
		wantMessage(t, api.Ar, "", code, "ar: "+want+"\n")
		wantMessage(t, api.Ar, "a b", code, "ar: \"a b\": "+want+"\n")
		wantMessage(t, api.Ranlib, "", code, "ranlib: "+want+"\n")
		wantMessage(t, api.Ranlib, "lib.a", code, "ranlib: lib.a: "+want+"\n")
	}
	for _, code := range []api.Errno{9999, 1<<32 + 90, math.MaxInt, math.MinInt, math.MinInt + 90} {
		wantMessage(t, api.Ar, "", code, "ar: unknown error\n")
		wantMessage(t, api.Ranlib, "x", code, "ranlib: x: unknown error\n")
	}
}
