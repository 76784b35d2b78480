package tool_test

import (
	"testing"

	"shelf/api"
	"shelf/tool"
	"shelf/vfs"
)

// exampleFiles are the files of the chapter's examples.
func exampleFiles() files {
	m := api.Meta{Date: 5, UID: 1, GID: 2, Mode: 0o644}
	return files{"a.o": {"hello", m}, "b.o": {"hi", m}, "list": {`a.o "b.o"`, m}, "bad": {`"x`, m}}
}

// row is a row of the chapter's table: a line, its answer, how many calls it makes (-1: the row does not tell).
type row struct {
	line  string
	want  api.Result
	calls int
}

func playRow(t *testing.T, f *vfs.FS, r row) {
	t.Helper()
	f.Arm(nil)
	wantResult(t, r.line, tool.Run(f, args(r.line), env), r.want)
	if r.calls >= 0 {
		wantCalls(t, r.line, f, r.calls)
	}
}

// The chapter's examples, row by row, each going on from the one before.
func TestExamples(t *testing.T) {
	f := roomFor(t, 10000, exampleFiles())
	created := out("a - a.o", "a - b.o")
	created.Msg = "ar: creating lib.a\n"
	for _, r := range []row{
		{"ar t lib.a", no("lib.a", api.ErrMissing), 1},
		{"ar r lib.a a.o x.o", no("x.o", api.ErrMissing), 4},
		{"ar t lib.a", no("lib.a", api.ErrMissing), 1},
		{"ar rv lib.a @list", created, 12},
		{"ar t lib.a @bad", no("bad", api.ErrQuote), 1},
		{"ar tv lib.a b.o", out("rw-r--r-- 1/2      2 Jan  1 00:00 1970 b.o"), 1},
		{"ar p lib.a", api.Result{Out: "hellohi"}, 1},
		{"ar t lib.a x a.o x", missing("a.o\n", "x", "x"), 1},
		{"ar m lib.a a.o", api.Result{}, -1},
		{"ar t lib.a", out("b.o", "a.o"), -1},
	} {
		playRow(t, f, r)
	}
	before := look(t, f)
	for _, r := range []row{
		{"ar d lib.a a.o y", no("y", api.ErrNoMember), 1},
		{"ar rT lib.a a.o", no("lib.a", api.ErrKind), 1},
		{"ar rc ar.tmp~ a.o", no("ar.tmp~", api.ErrReserved), 0},
	} {
		playRow(t, f, r)
		wantFiles(t, r.line, f, before)
	}
	playRow(t, f, row{"ar xv lib.a a.o", out("x - a.o"), 5})
	wantFiles(t, "ar xv lib.a a.o", f, before.but("a.o", file{"hello", api.Meta{Date: 100, UID: 7, GID: 8, Mode: 0o644}}))
	examplesThin(t, f)
}

// examplesThin are the last rows.
func examplesThin(t *testing.T, f *vfs.FS) {
	t.Helper()
	for _, r := range []row{
		{"ar rcT thin.a a.o", api.Result{}, -1},
		{"ar t thin.a", out("a.o"), -1},
		{"ar p thin.a", api.Result{Out: "hello"}, 2},
		{"ar x thin.a", no("thin.a", api.ErrThin), 1},
	} {
		playRow(t, f, r)
	}
	before := look(t, f)
	later := api.Env{Now: 200, UID: 9, GID: 10}
	wantResult(t, "ranlib lib.a none.a", tool.Run(f, args("ranlib lib.a none.a"), later), refused("ranlib", "none.a", api.ErrMissing))
	anew := file{before["lib.a"].data, api.Meta{Date: 200, UID: 9, GID: 10, Mode: 0o644}}
	wantFiles(t, "ranlib lib.a none.a", f, before.but("lib.a", anew))
	playRow(t, f, row{"ranlib", refused("ranlib", "", api.ErrNoArchive), 0})
}

// The calls that the chapter's examples name, each struck by itself.
func TestExamplesStruck(t *testing.T) {
	list := exampleFiles()
	wantStruck(t, list, "ar r lib.a a.o b.o", append([]string{"lib.a", "a.o", "a.o", "b.o", "b.o"}, replacing("lib.a", 138)...)...)
	wantStruck(t, list, "ar rv lib.a @list", append([]string{"list", "lib.a", "a.o", "a.o", "b.o", "b.o"}, replacing("lib.a", 138)...)...)
	wantStruck(t, list, "ar t lib.a @bad", "bad")
	list["lib.a"] = put(gnu(member("b.o", "hi"), member("a.o", "hello")))
	list["thin.a"] = put(thin(member("a.o", "hello")))
	wantStruck(t, list, "ar t lib.a x a.o x", "lib.a")
	wantStruck(t, list, "ar p lib.a", "lib.a")
	wantStruck(t, list, "ar xv lib.a a.o", "lib.a", "a.o", "a.o", "a.o", "lib.a")
	wantStruck(t, list, "ar p thin.a", "thin.a", "a.o")
	wantStruck(t, list, "ar x thin.a", "thin.a")
}
