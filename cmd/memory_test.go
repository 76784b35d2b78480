package cmd_test

import (
	"slices"
	"testing"

	"shelf/api"
	"shelf/cmd"
)

// spoil writes over a list and its spare room.
func spoil(of []string) {
	of = of[:cap(of)]
	for i := range of {
		of[i] = "spoilt"
	}
}

// lines are some with and some without names, and some that are refused.
func lines() [][]string {
	return [][]string{
		{}, {"nm", "x"}, {"ar"}, {"ar", "t"}, {"ar", "t", "lib.a"}, {"ar", "t", "lib.a", "x.o"}, {"ar", "--format=bsd", "-r", "-cv", "lib.a", "x.o", "", "-y"},
		{"ar", "ra", "x.o", "lib.a"}, {"ar", "mb", "x.o", "lib.a", "y.o", "z.o"}, {"ar", "--help", "t"}, {"ar", "rz", "lib.a", "x.o"}, {"ar", "tT", "lib.a", "x.o"},
		{"ranlib", "lib.a"}, {"ranlib", "-D", "a.a", "b.a", "c.a"}, {"ranlib", "-t", "a.a", "b.a"},
	}
}

// 15.9: the words that are handed in are as they were, with what lies behind them.
func TestWordsAsTheyWere(t *testing.T) {
	for _, l := range lines() {
		was := append(slices.Clone(l), "spare", "room")
		given := slices.Clone(was)
		cmd.Decode(given[:len(l)])
		if !slices.Equal(given, was) {
			t.Errorf("%q is left of %q", given, was)
		}
	}
}

// 15.9: Names written over and appended to leave the words and what lies behind them, and the other way round.
func TestNamesAreNew(t *testing.T) {
	for _, l := range lines() {
		was := append(slices.Clone(l), "spare", "room")
		given := slices.Clone(was)
		c, _, _ := cmd.Decode(given[:len(l)])
		count := len(c.Names)
		_ = append(c.Names, "behind")
		spoil(c.Names)
		if !slices.Equal(given, was) {
			t.Errorf("%q is left of %q when the names are written over", given, was)
		}
		c, culprit, e := cmd.Decode(given[:len(l)])
		want, wantCulprit, wantE := cmd.Decode(was[:len(l)])
		spoil(given)
		if len(c.Names) != count || !same(c, want) || culprit != wantCulprit || e != wantE {
			t.Errorf("%s, %q, %d is left of %s when the words are written over", told(c), culprit, e, told(want))
		}
	}
}

// R4: two answers share no memory.
func TestAnswersApart(t *testing.T) {
	for _, l := range lines() {
		first, _, _ := cmd.Decode(l)
		second, _, _ := cmd.Decode(l)
		want := slices.Clone(second.Names)
		spoil(first.Names)
		if !slices.Equal(second.Names, want) {
			t.Errorf("%q is left of %q", second.Names, want)
		}
	}
}

// 15.11: the list is new memory, and the command's names are as they were.
func TestLineIsNew(t *testing.T) {
	for _, l := range lines() {
		c, _, e := cmd.Decode(l)
		if e != api.OK {
			continue
		}
		given := append(slices.Clone(c.Names), "spare", "room")
		was := slices.Clone(given)
		c.Names = given[:len(c.Names)]
		first, _ := cmd.Line(c)
		want := slices.Clone(first)
		second, _ := cmd.Line(c)
		_ = append(first, "behind")
		spoil(first)
		if !slices.Equal(given, was) || !slices.Equal(second, want) {
			t.Errorf("%q is left of %q, %q of %q", given, was, second, want)
		}
		spoil(given)
		if !slices.Equal(second, want) {
			t.Errorf("%q is left of %q when the names are written over", second, want)
		}
	}
}

// R2: an answer hangs on the words alone, not on what was read before.
func TestReadAgain(t *testing.T) {
	for _, l := range lines() {
		first, culprit, e := cmd.Decode(l)
		for _, other := range lines() {
			cmd.Decode(other)
			c, again, code := cmd.Decode(l)
			if !same(c, first) || again != culprit || code != e {
				t.Errorf("Decode(%q) behind %q: %s, %q, %d", l, other, told(c), again, code)
			}
		}
	}
}
