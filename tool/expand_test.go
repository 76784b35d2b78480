package tool_test

import (
	"fmt"
	"slices"
	"strings"
	"testing"

	"shelf/api"
	"shelf/tool"
)

// lists are files of words.
func lists() files {
	return files{
		"list": put("a.o \"b o\"\n\tc\\x20d"), "one": put("x"), "none": put(""), "blank": put(" \n\t "), "again": put("@one @list @"), "ends": put("\"\""),
		"bad": put("\"x"), "bad2": put("x \\q"), "@": put("at"), temp: put("own"), "ar": put("program"), strings.Repeat("n", 64): put("long"),
	}
}

func wantWords(t *testing.T, args, words []string, calls int) {
	t.Helper()
	f := durable(t, lists())
	got, name, e := tool.Expand(f, args)
	what := fmt.Sprintf("17.1: Expand(%q)", args)
	if !slices.Equal(got, words) || name != "" || e != api.OK {
		t.Errorf("%s = %q, %q, %d, want %q", what, got, name, e, words)
	}
	wantCalls(t, what, f, calls)
	wantFiles(t, what, f, lists())
}

// 17.1: a file's words stand in the word's place, in order, and are not expanded again.
func TestExpand(t *testing.T) {
	wantWords(t, nil, nil, 0)
	wantWords(t, []string{}, nil, 0)
	wantWords(t, []string{"ar"}, []string{"ar"}, 0)
	wantWords(t, []string{"ar", "t", "lib.a"}, []string{"ar", "t", "lib.a"}, 0)
	wantWords(t, []string{"ar", "@list"}, []string{"ar", "a.o", "b o", "c d"}, 1)
	wantWords(t, []string{"ar", "r", "@one", "y", "@list", "z"}, []string{"ar", "r", "x", "y", "a.o", "b o", "c d", "z"}, 2)
	wantWords(t, []string{"ar", "@one", "@one"}, []string{"ar", "x", "x"}, 2)
	wantWords(t, []string{"ar", "@none", "y", "@blank"}, []string{"ar", "y"}, 2)
	wantWords(t, []string{"ar", "@ends"}, []string{"ar", ""}, 1)
	wantWords(t, []string{"ar", "@again"}, []string{"ar", "@one", "@list", "@"}, 1)
	wantWords(t, []string{"ar", "@@"}, []string{"ar", "at"}, 1)
	wantWords(t, []string{"ar", "@" + strings.Repeat("n", 64)}, []string{"ar", "long"}, 1)
}

// 17.1: words that stand as they are: the first one, those that mean no file, and those whose file is not there or can't be.
func TestExpandLeaves(t *testing.T) {
	for _, c := range []struct {
		word  string
		calls int
	}{
		{"", 0}, {"@", 0}, {"x@list", 0}, {" @list", 0}, {"\"@list\"", 0}, {"-@list", 0}, {"@" + temp, 0},
		{"@missing", 1}, {"@list ", 1}, {"@@list", 1}, {"@a/b", 1}, {"@/", 1}, {"@list\x00", 1}, {"@" + strings.Repeat("n", 65), 1}, {"@" + temp + "~", 1},
	} {
		wantWords(t, []string{"ar", c.word}, []string{"ar", c.word}, c.calls)
		wantWords(t, []string{"ar", c.word, "@one"}, []string{"ar", c.word, "x"}, c.calls+1)
		wantWords(t, []string{c.word, "@one"}, []string{c.word, "x"}, 1)
	}
	wantWords(t, []string{"@list"}, []string{"@list"}, 0)
	wantWords(t, []string{"@bad", "@list"}, []string{"@bad", "a.o", "b o", "c d"}, 1)
}

func wantNoWords(t *testing.T, what string, words []string, name string, e api.Errno, wantName string, want api.Errno) {
	t.Helper()
	if len(words) != 0 || name != wantName || e != want {
		t.Errorf("17.1: %s: %q, %q, %d, want none, %q, %d", what, words, name, e, wantName, want)
	}
}

// 17.1: what cannot be split is refused with the file's name, and no file behind it is read.
func TestExpandSplit(t *testing.T) {
	for _, c := range []struct {
		line, name string
		e          api.Errno
		calls      int
	}{
		{"ar @bad", "bad", api.ErrQuote, 1},
		{"ar @bad2", "bad2", api.ErrEscape, 1},
		{"ar @list @bad @bad2 @one", "bad", api.ErrQuote, 2},
		{"ar @missing @one @bad2 @bad", "bad2", api.ErrEscape, 3},
	} {
		f := durable(t, lists())
		words, name, e := tool.Expand(f, args(c.line))
		wantNoWords(t, c.line, words, name, e, c.name, c.e)
		wantCalls(t, c.line, f, c.calls)
	}
}

// 17.1: every other refusal of ReadFile is Expand's, each call struck by each kind of fault.
func TestExpandStruck(t *testing.T) {
	line := []string{"ar", "@one", "y", "@missing", "@a/b", "@list", "@bad"}
	names := []string{"one", "missing", "a/b", "list", "bad"}
	for k, want := range names {
		for _, kind := range kinds() {
			what := fmt.Sprintf("fault %d at call %d", kind, k+1)
			f := durable(t, lists())
			f.Arm([]api.Fault{{At: k + 1, Kind: kind}})
			words, name, e := tool.Expand(f, line)
			wantNoWords(t, what, words, name, e, want, struck(kind))
			wantCalls(t, what, f, k+1)
		}
	}
	f := durable(t, lists())
	f.Arm([]api.Fault{{At: 1, Kind: api.FaultDown}})
	f.SyncDir()
	words, name, e := tool.Expand(f, line)
	wantNoWords(t, "the power is off", words, name, e, "one", api.ErrDown)
	words, name, e = tool.Expand(f, []string{"ar", "x", "@", "@" + temp})
	if !slices.Equal(words, []string{"ar", "x", "@", "@" + temp}) || name != "" || e != api.OK {
		t.Errorf("17.1: nothing is read, the power is off: %q, %q, %d", words, name, e)
	}
}

// 17.1, R4: the list that is handed in stays as it was, its spare room too, and the answers have memory of their own.
func TestExpandMemory(t *testing.T) {
	for _, line := range [][]string{{"ar", "x", "y"}, {"ar", "@list"}, {"ar", "x", "@list", "@none"}, {"ar"}} {
		f := durable(t, lists())
		room := append(slices.Clone(line), "spare", "room", "behind", "it")
		before := slices.Clone(room)
		first, _, _ := tool.Expand(f, room[:len(line)])
		want := slices.Clone(first)
		second, _, _ := tool.Expand(f, room[:len(line)])
		if !slices.Equal(room, before) {
			t.Errorf("17.1: Expand changed its list: %q, was %q", room, before)
		}
		for i := range second[:cap(second)] {
			second[:cap(second)][i] = "other"
		}
		if !slices.Equal(first, want) || !slices.Equal(room, before) {
			t.Errorf("17.1: two answers of Expand(%q), or an answer and the list, share memory", line)
		}
		for i := range room {
			room[i] = "other"
		}
		if !slices.Equal(first, want) {
			t.Errorf("17.1: Expand(%q) kept its list", line)
		}
	}
}
