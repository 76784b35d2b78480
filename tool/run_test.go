package tool_test

import (
	"fmt"
	"strings"
	"testing"

	"shelf/api"
	"shelf/cmd"
	"shelf/tool"
)

// 17.2: the program that speaks is told by the first word alone, whatever refuses.
func TestWhoSpeaks(t *testing.T) {
	list := lists().but("ranlib", put("ranlib"))
	for _, c := range []struct {
		words []string
		want  api.Result
		calls int
	}{
		{nil, refused("ar", "", api.ErrProgram), 0},
		{[]string{"ar"}, refused("ar", "", api.ErrNoOp), 0},
		{[]string{"ranlib"}, refused("ranlib", "", api.ErrNoArchive), 0},
		{[]string{"ranlib", "-D"}, refused("ranlib", "", api.ErrNoArchive), 0},
		{[]string{"ranlib", "-t", "lib.a"}, refused("ranlib", "t", api.ErrLetter), 0},
		{[]string{"ar", "rx", "lib.a"}, refused("ar", "x", api.ErrTwoOps), 0},
		{[]string{"ar", "--help"}, refused("ar", "--help", api.ErrOption), 0},
		{[]string{"ar", "ra"}, refused("ar", "", api.ErrNoAnchor), 0},
		{[]string{"Ranlib", "lib.a"}, refused("ar", "Ranlib", api.ErrProgram), 0},
		{[]string{"ranlib "}, refused("ar", `"ranlib "`, api.ErrProgram), 0},
		{[]string{"", "ranlib"}, refused("ar", "", api.ErrProgram), 0},
		{[]string{"@ranlib", "lib.a"}, refused("ar", "@ranlib", api.ErrProgram), 0},
		{[]string{"ar", "@bad"}, refused("ar", "bad", api.ErrQuote), 1},
		{[]string{"ranlib", "@bad"}, refused("ranlib", "bad", api.ErrQuote), 1},
		{[]string{"else", "@bad"}, refused("ar", "bad", api.ErrQuote), 1},
		{[]string{"else", "@one"}, refused("ar", "else", api.ErrProgram), 1},
		{[]string{"ar", "rx", "@list", "@bad2"}, refused("ar", "bad2", api.ErrEscape), 2},
		{[]string{"ranlib", "-", "@one"}, refused("ranlib", "-", api.ErrMissing), 2},
		{[]string{"ranlib", "ar.tmp~"}, refused("ranlib", "ar.tmp~", api.ErrReserved), 0},
	} {
		what := fmt.Sprintf("17.2: Run(%q)", c.words)
		f := durable(t, list)
		wantResult(t, what, tool.Run(f, c.words, env), c.want)
		wantCalls(t, what, f, c.calls)
		wantFiles(t, what, f, list)
	}
}

// 17.2: a file of words that cannot be read.
func TestWhoSpeaksStruck(t *testing.T) {
	for _, prog := range []string{"ar", "ranlib"} {
		for _, kind := range kinds() {
			f := durable(t, lists())
			f.Arm([]api.Fault{{At: 2, Kind: kind}})
			got := tool.Run(f, []string{prog, "@one", "@list"}, env)
			wantResult(t, "17.2: a fault", got, refused(prog, "list", struck(kind)))
		}
	}
}

// 17.2: any words of a line may stand in a file, the key word too.
func TestWordsOfFiles(t *testing.T) {
	list := files{"a.o": put("hello"), "b.o": put("hi"), "line": put("rcv lib.a\na.o b.o\n")}
	a, b := member("a.o", "hello"), member("b.o", "hi")
	wantRun(t, list, "ar @line", out("a - a.o", "a - b.o"), 1+1+4+6, list.but("lib.a", made(gnu(a, b))))
	wantRun(t, list, "ar @line a.o", out("a - a.o", "a - b.o", "r - a.o"), 1+1+6+6, list.but("lib.a", made(gnu(a, b))))
}

// 17.2: what is understood is carried out as Exec does it, in this environment.
func TestRunIsExec(t *testing.T) {
	list := thinAndRegular()
	for _, line := range []string{
		"ar rv lib.a a.o b.o", "ar tv lib.a", "ar p thin.a", "ar d lib.a b.o", "ar xv lib.a", "ar qTS thin.a c.o", "ar ma b.o lib.a a.o", "ar --format=bsd rD new.a c.o",
		"ranlib lib.a thin.a", "ranlib -D lib.a", "ar s lib.a", "ar t none.a", "ar rb zz lib.a a.o", "ar ru lib.a a.o",
	} {
		for _, e := range []api.Env{env, {Now: 3, UID: 4, GID: 5, Wide: 1}, {Now: -1}} {
			f, g := durable(t, list), durable(t, list)
			c, _, code := cmd.Decode(strings.Fields(line))
			if code != api.OK {
				t.Fatalf("%s: %d", line, code)
			}
			wantResult(t, "17.2: "+line, tool.Run(f, args(line), e), tool.Exec(g, c, e))
			wantCalls(t, "17.2: "+line, f, g.Calls())
			wantFiles(t, "17.2: "+line, f, look(t, g))
		}
	}
}

// thinAndRegular are three files, and a regular and a thin archive of two of them.
func thinAndRegular() files {
	a, b := member("a.o", "hello"), member("b.o", object("f"))
	return files{
		"a.o": put(a.Data), "b.o": put(b.Data), "c.o": put("see"),
		"lib.a": put(gnu(a, b)), "thin.a": put(thin(a, b)),
	}
}
