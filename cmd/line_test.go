package cmd_test

import (
	"math"
	"testing"

	"shelf/api"
)

// 15.10: numbers that are no program's, ahead of all else.
func TestLineOfNoProgram(t *testing.T) {
	for _, n := range []int{-1, -2, 2, 3, 255, 256, 257, 1 << 32, 1<<32 + 1, math.MaxInt, math.MinInt, math.MinInt + 1} {
		wantNoLine(t, ar('t', prog(n)), api.ErrProgram)
		wantNoLine(t, ar('z', prog(n), kind(7), pos(9, "-x"), archive("-x")), api.ErrProgram)
		wantNoLine(t, api.Command{Prog: n}, api.ErrProgram)
	}
}

// 15.10: bytes that are no operation's, and operations that are not ranlib's.
func TestLineOfNoOperation(t *testing.T) {
	ops := "dmpqrstx"
	for b := range 256 {
		op, is := byte(b), false
		for _, o := range []byte(ops) {
			is = is || o == op
		}
		if is {
			wantLine(t, ar(op), "ar", string(rune(op)), "lib.a")
		} else {
			wantNoLine(t, ar(op), api.ErrNoOp)
			wantNoLine(t, ar(op, kind(7), pos(9, "-x"), archive("-x")), api.ErrNoOp)
		}
		if op != 's' {
			wantNoLine(t, ar(op, prog(api.Ranlib)), api.ErrNoOp)
			wantNoLine(t, ar(op, prog(api.Ranlib), verbose, kind(api.Thin), pos(3, "-x"), archive("-x")), api.ErrNoOp)
		}
	}
	wantNoLine(t, api.Command{}, api.ErrNoOp)
}

// 15.10: kinds and positions that no line means.
func TestLineOfNoKind(t *testing.T) {
	for _, k := range []api.Kind{api.Thin, -1, 3, 4, 256, 258, 1 << 32, 1<<32 + 2, math.MaxInt, math.MinInt} {
		wantNoLine(t, ar('r', kind(k)), api.ErrMix)
		wantNoLine(t, ar('t', kind(k), pos(api.AtEnd, "x"), archive("-x")), api.ErrMix)
		wantNoLine(t, ranlib(kind(k)), api.ErrMix)
	}
	for _, where := range []int{-1, 3, 4, 256, 257, 258, 1 << 32, 1<<32 + 1, math.MaxInt, math.MinInt} {
		wantNoLine(t, ar('r', pos(where, "x")), api.ErrMix)
		wantNoLine(t, ar('m', pos(where, "-x"), archive("-x")), api.ErrMix)
		wantNoLine(t, ar('r', pos(where, "")), api.ErrMix)
		wantNoLine(t, ranlib(pos(where, "")), api.ErrMix)
	}
}

// 15.10: what ranlib has no words for.
func TestLineOfRanlibWithMore(t *testing.T) {
	for letter, set := range flags() {
		if letter != "D" {
			wantNoLine(t, ranlib(set), api.ErrMix)
			wantNoLine(t, ranlib(set, det), api.ErrMix)
			wantNoLine(t, ranlib(set, pos(api.AtEnd, "x"), archive("-x")), api.ErrMix)
		}
	}
	wantNoLine(t, ranlib(bsd), api.ErrMix)
	wantNoLine(t, ranlib(det, bsd, archive("-x")), api.ErrMix)
	for _, where := range []int{api.After, api.Before} {
		wantNoLine(t, ranlib(pos(where, "x")), api.ErrMix)
		wantNoLine(t, ranlib(pos(where, "")), api.ErrMix)
		wantNoLine(t, ranlib(det, pos(where, "-x")), api.ErrMix)
	}
	wantNoLine(t, ranlib(pos(api.AtEnd, "x")), api.ErrNoAnchor)
	wantNoLine(t, ranlib(pos(api.AtEnd, "-"), archive("-x")), api.ErrNoAnchor)
}

// 15.10: what does not go together, each by itself.
func TestLineOfMixes(t *testing.T) {
	for _, op := range []byte("dmpqrstx") {
		for _, x := range []struct {
			set  func(*api.Command)
			goes string
			key  string
		}{
			{after("x.o"), "mr", "a"}, {before("x.o"), "mr", "b"}, {update, "r", "u"}, {thin, "rq", "T"}, {dates, "x", "o"}, {quiet, "rq", "c"}, {bare, "dmqr", "S"}, {det, "dmpqrstx", "D"}, {verbose, "dmpqrstx", "v"},
		} {
			c, is := ar(op, x.set), false
			for _, o := range []byte(x.goes) {
				is = is || o == op
			}
			switch {
			case is && c.Pos.Where != api.AtEnd:
				wantLine(t, c, "ar", string(rune(op))+x.key, "x.o", "lib.a")
			case is:
				wantLine(t, c, "ar", string(rune(op))+x.key, "lib.a")
			default:
				wantNoLine(t, c, api.ErrMix)
				c.Pos.Anchor, c.Archive = "-x", "-x"
				wantNoLine(t, c, api.ErrMix)
			}
		}
	}
	wantNoLine(t, ar('r', update, det), api.ErrMix)
	wantNoLine(t, ar('r', thin, bsd), api.ErrMix)
	wantNoLine(t, ar('q', thin, bsd, archive("-x")), api.ErrMix)
}

// 15.10: anchors and archives that would be read as something else.
func TestLineOfOperands(t *testing.T) {
	for i, word := range oddNames() {
		keyWord := i >= 14
		for _, at := range []func(string) func(*api.Command){after, before} {
			if keyWord {
				wantNoLine(t, ar('r', at(word)), api.ErrNoAnchor)
				wantNoLine(t, ar('m', at(word), archive("-x")), api.ErrNoAnchor)
			} else {
				wantBack(t, ar('m', at(word)))
			}
			wantBack(t, ar('r', at("x.o"), archive(word)))
			wantBack(t, ar('r', at(""), archive(word)))
		}
		if word != "" {
			wantNoLine(t, ar('t', pos(api.AtEnd, word)), api.ErrNoAnchor)
			wantNoLine(t, ar('r', pos(api.AtEnd, word), archive("-x")), api.ErrNoAnchor)
			wantNoLine(t, ranlib(pos(api.AtEnd, word), archive("-x")), api.ErrNoAnchor)
		}
		if keyWord {
			wantNoLine(t, ar('t', archive(word)), api.ErrNoArchive)
			wantNoLine(t, ar('r', archive(word), names("x.o")), api.ErrNoArchive)
			wantNoLine(t, ranlib(archive(word)), api.ErrNoArchive)
			wantNoLine(t, ranlib(det, archive(word)), api.ErrNoArchive)
		} else {
			wantLine(t, ar('t', archive(word)), "ar", "t", word)
			wantLine(t, ranlib(archive(word)), "ranlib", word)
		}
		wantLine(t, ar('t', names(word, word)), "ar", "t", "lib.a", word, word)
		wantLine(t, ranlib(det, names(word, "")), "ranlib", "-D", "lib.a", word, "")
	}
}

// 15.11: the line to the byte.
func TestLine(t *testing.T) {
	wantLine(t, ar('r', quiet, det, bare, thin, verbose), "ar", "rcDSTv", "lib.a")
	wantLine(t, ar('r', quiet, bare, thin, update, verbose), "ar", "rcSTuv", "lib.a")
	wantLine(t, ar('r', after("x.o"), quiet, bare, thin, update, verbose), "ar", "racSTuv", "x.o", "lib.a")
	wantLine(t, ar('r', before("x.o"), quiet, det, bare, bsd, verbose, names("y.o")), "ar", "--format=bsd", "rbcDSv", "x.o", "lib.a", "y.o")
	wantLine(t, ar('x', det, dates, verbose), "ar", "xDov", "lib.a")
	wantLine(t, ar('x', dates, bsd), "ar", "--format=bsd", "xo", "lib.a")
	wantLine(t, ar('q', quiet, thin), "ar", "qcT", "lib.a")
	wantLine(t, ar('m', before(""), bare, archive("")), "ar", "mbS", "", "")
	wantLine(t, ar('m', after("-"), archive("--thin"), names("--", "-")), "ar", "ma", "-", "--thin", "--", "-")
	wantLine(t, ar('s'), "ar", "s", "lib.a")
	wantLine(t, ar('s', det, verbose, bsd), "ar", "--format=bsd", "sDv", "lib.a")
	wantLine(t, ar('d', names("", "")), "ar", "d", "lib.a", "", "")
	wantLine(t, ar('p', names()), "ar", "p", "lib.a")
	wantLine(t, ranlib(), "ranlib", "lib.a")
	wantLine(t, ranlib(det), "ranlib", "-D", "lib.a")
	wantLine(t, ranlib(names("b.a", "-D")), "ranlib", "lib.a", "b.a", "-D")
	wantLine(t, ranlib(det, archive("-"), names("")), "ranlib", "-D", "-", "")
}
