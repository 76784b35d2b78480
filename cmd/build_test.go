package cmd_test

import (
	"fmt"
	"slices"
	"strings"
	"testing"

	"shelf/api"
	"shelf/cmd"
)

// words are those of a text that blanks part.
func words(s string) []string { return strings.Fields(s) }

// list is one of the words that are given, whatever bytes they have.
func list(of ...string) []string { return of }

// ar is a command of ar with this operation on lib.a, changed by each of these.
func ar(op byte, change ...func(*api.Command)) api.Command {
	c := api.Command{Op: op, Archive: "lib.a"}
	for _, f := range change {
		f(&c)
	}
	return c
}

// ranlib is a command of ranlib on lib.a.
func ranlib(change ...func(*api.Command)) api.Command {
	c := ar('s', change...)
	c.Prog = api.Ranlib
	return c
}

func quiet(c *api.Command)   { c.Quiet = true }
func det(c *api.Command)     { c.Det = true }
func dates(c *api.Command)   { c.Dates = true }
func bare(c *api.Command)    { c.Bare = true }
func thin(c *api.Command)    { c.Thin = true }
func update(c *api.Command)  { c.Update = true }
func verbose(c *api.Command) { c.Verbose = true }
func bsd(c *api.Command)     { c.Kind = api.BSD }

func after(anchor string) func(*api.Command) {
	return func(c *api.Command) { c.Pos = api.Pos{Where: api.After, Anchor: anchor} }
}

func before(anchor string) func(*api.Command) {
	return func(c *api.Command) { c.Pos = api.Pos{Where: api.Before, Anchor: anchor} }
}

func pos(where int, anchor string) func(*api.Command) {
	return func(c *api.Command) { c.Pos = api.Pos{Where: where, Anchor: anchor} }
}

func kind(k api.Kind) func(*api.Command) { return func(c *api.Command) { c.Kind = k } }

func prog(n int) func(*api.Command) { return func(c *api.Command) { c.Prog = n } }

func archive(name string) func(*api.Command) { return func(c *api.Command) { c.Archive = name } }

func names(all ...string) func(*api.Command) { return func(c *api.Command) { c.Names = all } }

// flags are the letters of the flags, and what each sets.
func flags() map[string]func(*api.Command) {
	return map[string]func(*api.Command){"c": quiet, "D": det, "o": dates, "S": bare, "T": thin, "u": update, "v": verbose}
}

// same tells whether two commands are; no names may be nil or empty.
func same(a, b api.Command) bool {
	return a.Prog == b.Prog && a.Op == b.Op && a.Verbose == b.Verbose && a.Update == b.Update && a.Quiet == b.Quiet && a.Det == b.Det && a.Dates == b.Dates &&
		a.Bare == b.Bare && a.Thin == b.Thin && a.Kind == b.Kind && a.Pos == b.Pos && a.Archive == b.Archive && slices.Equal(a.Names, b.Names)
}

// told tells a command.
func told(c api.Command) string { return fmt.Sprintf("%+v, names %q", c, c.Names) }

// wantTaken wants the line to mean this command, and what 15.12 says of it.
func wantTaken(t *testing.T, args []string, want api.Command) {
	t.Helper()
	c, culprit, e := cmd.Decode(args)
	if e != api.OK || culprit != "" || !same(c, want) {
		t.Errorf("Decode(%q): %s, %q, %d, want %s", args, told(c), culprit, e, told(want))
		return
	}
	wantBack(t, c)
}

// wantBack wants a line of the command, and that it means the command.
func wantBack(t *testing.T, c api.Command) {
	t.Helper()
	line, e := cmd.Line(c)
	if e != api.OK {
		t.Errorf("Line(%s): %d", told(c), e)
		return
	}
	again, culprit, e := cmd.Decode(line)
	if e != api.OK || culprit != "" || !same(again, c) {
		t.Errorf("Decode(%q): %s, %q, %d, want %s", line, told(again), culprit, e, told(c))
	}
}

func wantRefused(t *testing.T, args []string, culprit string, e api.Errno) {
	t.Helper()
	c, word, code := cmd.Decode(args)
	if code != e || word != culprit || !same(c, api.Command{}) || c.Names != nil {
		t.Errorf("Decode(%q): %s, %q, %d, want %q, %d", args, told(c), word, code, culprit, e)
	}
}

// wantLine wants this line of the command, and that it means the command.
func wantLine(t *testing.T, c api.Command, want ...string) {
	t.Helper()
	line, e := cmd.Line(c)
	if e != api.OK || !slices.Equal(line, want) {
		t.Errorf("Line(%s): %q, %d, want %q", told(c), line, e, want)
		return
	}
	wantTaken(t, want, c)
}

func wantNoLine(t *testing.T, c api.Command, want api.Errno) {
	t.Helper()
	if line, e := cmd.Line(c); e != want || line != nil {
		t.Errorf("Line(%s): %q, %d, want %d", told(c), line, e, want)
	}
}

// oddLetters are what is no letter of a key word, each by its own bytes: stray bytes, and runes of one to four bytes.
func oddLetters() []string {
	letters := []string{"\ufffd", "é", "ſ", "\u0080", "\u07ff", "\u0800", "€", "\uffff", "\U00010000", "😀", "\U0010ffff", "ａ", "ｒ", "\x80", "\xbf", "\xc0", "\xc1", "\xc2", "\xdf", "\xe2", "\xed", "\xf0", "\xf5", "\xff"}
	for b := range 128 {
		if !strings.ContainsRune("abcdilmopqrstuvxDST", rune(b)) {
			letters = append(letters, string(rune(b)))
		}
	}
	return letters
}
