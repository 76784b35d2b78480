package cmd_test

import (
	"testing"

	"shelf/api"
)

// The chapter's examples of lines that are taken, row by row.
func TestExamplesTaken(t *testing.T) {
	wantTaken(t, words("ar rc lib.a x.o y.o"), ar('r', quiet, names("x.o", "y.o")))
	wantTaken(t, words("ar -r -cv lib.a x.o"), ar('r', quiet, verbose, names("x.o")))
	wantTaken(t, words("ar --format=bsd --format=gnu qS lib.a"), ar('q', bare))
	wantTaken(t, words("ar --thin r lib.a x.o"), ar('r', thin, names("x.o")))
	wantTaken(t, words("ar s lib.a"), ar('s'))
	wantTaken(t, words("ar ss lib.a"), ar('s'))
	wantTaken(t, words("ar rs lib.a"), ar('r'))
	wantTaken(t, words("ar sr lib.a"), ar('r'))
	wantTaken(t, words("ar ri x.o lib.a y.o"), ar('r', before("x.o"), names("y.o")))
	wantTaken(t, words("ar ra x.o -lib.a"), ar('r', after("x.o"), archive("-lib.a")))
	wantTaken(t, words("ar t -"), ar('t', archive("-")))
	wantTaken(t, words("ar t - -x"), ar('t', archive("-"), names("-x")))
	wantTaken(t, words("ranlib lib.a"), ranlib())
	wantTaken(t, words("ranlib -D -DD a.a b.a"), ranlib(det, archive("a.a"), names("b.a")))
	wantTaken(t, words("ranlib - x"), ranlib(archive("-"), names("x")))
	wantTaken(t, words("ar -r -v lib.a x.o"), ar('r', verbose, names("x.o")))
}

// The chapter's examples of lines that are refused, row by row.
func TestExamplesRefused(t *testing.T) {
	wantRefused(t, nil, "", api.ErrProgram)
	for _, x := range []struct {
		line, culprit string
		e             api.Errno
	}{
		{"ar rib x.o lib.a y.o", "b", api.ErrMix},
		{"ar r -lib.a", "b", api.ErrMix},
		{"AR t lib.a", "AR", api.ErrProgram},
		{"/bin/ar t lib.a", "/bin/ar", api.ErrProgram},
		{"ar", "", api.ErrNoOp},
		{"ar --thin", "", api.ErrNoOp},
		{"ar -", "", api.ErrNoOp},
		{"ar v lib.a", "", api.ErrNoOp},
		{"ar --help", "--help", api.ErrOption},
		{"ar r --thin lib.a", "-", api.ErrLetter},
		{"ar rx lib.a", "x", api.ErrTwoOps},
		{"ar tt lib.a", "t", api.ErrTwoOps},
		{"ar dvm lib.a", "m", api.ErrTwoOps},
		{"ar rz lib.a", "z", api.ErrLetter},
		{"ar rzx lib.a", "z", api.ErrLetter},
		{"ar ré lib.a", "é", api.ErrLetter},
		{"ar \x72\xff", "\xff", api.ErrLetter},
		{"ar \x72\xef\xbf\xbd", "\xef\xbf\xbd", api.ErrLetter},
		{"ar tz", "z", api.ErrLetter},
		{"ar zz", "z", api.ErrLetter},
		{"ar ta x.o lib.a", "a", api.ErrMix},
		{"ar di", "i", api.ErrMix},
		{"ar ruD lib.a", "u", api.ErrMix},
		{"ar qu lib.a", "u", api.ErrMix},
		{"ar quT lib.a", "u", api.ErrMix},
		{"ar tT lib.a", "T", api.ErrMix},
		{"ar --thin --format=bsd r lib.a", "T", api.ErrMix},
		{"ar rocS lib.a", "o", api.ErrMix},
		{"ar dc lib.a", "c", api.ErrMix},
		{"ar tS lib.a", "S", api.ErrMix},
		{"ar sS lib.a", "S", api.ErrMix},
		{"ar ra", "", api.ErrNoAnchor},
		{"ar ra x.o", "", api.ErrNoArchive},
		{"ar d", "", api.ErrNoArchive},
		{"ar t -v", "", api.ErrNoArchive},
		{"ranlib", "", api.ErrNoArchive},
		{"ranlib -D", "", api.ErrNoArchive},
		{"ranlib -t lib.a", "t", api.ErrLetter},
		{"ranlib --help", "-", api.ErrLetter},
		{"ranlib -Dé", "é", api.ErrLetter},
	} {
		wantRefused(t, words(x.line), x.culprit, x.e)
	}
	wantRefused(t, list("ar", ""), "", api.ErrNoOp)
}

// The chapter's examples of Line, row by row.
func TestExamplesOfLine(t *testing.T) {
	wantLine(t, ar('r', after("x.o"), det, verbose, archive("l.a"), names("-y", "")), "ar", "raDv", "x.o", "l.a", "-y", "")
	wantNoLine(t, ar('t', archive("-x")), api.ErrNoArchive)
	wantNoLine(t, ar('m', before("-x")), api.ErrNoAnchor)
	wantNoLine(t, ar('t', pos(api.AtEnd, "x")), api.ErrNoAnchor)
	wantNoLine(t, ar('s', bare), api.ErrMix)
	wantNoLine(t, ar('z', prog(2)), api.ErrProgram)
	for _, op := range []byte("dmpqrstx") {
		wantNoLine(t, ar(op, kind(api.Thin)), api.ErrMix)
	}
	wantNoLine(t, ar('z', kind(api.Thin)), api.ErrNoOp)
}
