package mri_test

import (
	"testing"

	"shelf/api"
	"shelf/mri"
	"shelf/show"
	"shelf/vfs"
)

// The chapter's examples of Decode and Text, row by row.
func TestDecodeExamples(t *testing.T) {
	for _, text := range []string{"", "\n", "* remark", " ; x", "+"} {
		wantDecode(t, text)
	}
	wantDecode(t, "create lib.a", of(api.MriCreate, "lib.a"))
	wantDecode(t, "CReate ,lib.a, ; the archive", of(api.MriCreate, "lib.a"))
	for _, text := range []string{"addmod a.o b.o", "addmod a.o,b.o", "addmod a.o, +\nb.o"} {
		wantDecode(t, text, of(api.MriAddMod, "", "a.o", "b.o"))
	}
	wantDecode(t, "ADDMOD + a.o", of(api.MriAddMod, "", "+", "a.o"))
	wantDecode(t, "ADDMOD a+ b", of(api.MriAddMod, "", "a+", "b"))
	wantDecode(t, "ADDLIB l.a", of(api.MriAddLib, "l.a"))
	wantDecode(t, "ADDLIB l.a()", of(api.MriAddLib, "l.a"))
	wantDecode(t, "ADDLIB l.a (x,y)", of(api.MriAddLib, "l.a", "x", "y"))
	wantNo(t, "SAVE\nEND\nFOO", 3, api.ErrVerb)
	for _, text := range []string{"SAVE now", "CREATE", "CREATE a b", "DELETE", "DELETE (a)", "ADDLIB l.a (x", "ADDLIB l.a x", "ADDLIB (x)", "ADDLIB l.a (x) y", "LIST ()"} {
		wantNo(t, text, 1, api.ErrList)
	}
	wantNo(t, "(SAVE)", 1, api.ErrVerb)
	wantDecode(t, "SAVE*now", of(api.MriSave, ""))
	wantNo(t, "SAVEnow", 1, api.ErrVerb)
	wantNo(t, "VERBOSE\n\nDELETE +\n*\nLIST", 3, api.ErrList)
	wantText(t, lines("ADDLIB l.a (x, y)", "CREATE l", "ADDMOD a, b", "SAVE"), of(api.MriAddLib, "l.a", "x", "y"), of(api.MriCreate, "l"), of(api.MriAddMod, "", "a", "b"), of(api.MriSave, ""), of(14, ""))
	wantDecode(t, "ADDMOD + +\n\n", of(api.MriAddMod, "", "+"))
	wantDecode(t, "ADDMOD a, +\nb +\nc", of(api.MriAddMod, "", "a", "b", "c"))
}

// example is a row of the chapter's scripts; calls below 0: the row does not tell them.
type example struct {
	bars  string
	want  api.Result
	calls int
}

// The chapter's examples of Run, row by row, each going on from the one before.
func TestRunExamples(t *testing.T) {
	meta := api.Meta{Date: 5, UID: 1, GID: 2, Mode: 0o644}
	f := roomFor(t, 10000, files{"a.o": {"hello", meta}, "b.o": {"hi", meta}})
	a := api.Member{Meta: meta, Name: "a.o", Size: 5, Data: "hello"}
	b := api.Member{Meta: meta, Name: "b.o", Size: 2, Data: "hi"}
	both := gnu(a, b)
	list := api.Result{Out: lines("q - a.o", "q - b.o") + show.Line(a) + show.Line(b)}
	for _, x := range []example{
		{"SAVE", no("", api.ErrNoOpen), 1},
		{"VERBOSE / CREATE l.a / ADDMOD a.o b.o / SAVE / LIST", list, 11},
		{"OPEN l.a / DELETE b.o x", no("x", api.ErrNoMember), 2},
		{"DIRECTORY l.a (b.o) / END / FOO", no("s", api.ErrVerb), 1},
		{"DIRECTORY l.a (b.o) / END / SAVE", told("b.o"), 2},
		{"CREATE m.a / ADDLIB l.a (b.o) / ADDLIB l.a / SAVE / DIRECTORY m.a", told("b.o", "a.o", "b.o"), -1},
		{"OPEN l.a / VERBOSE / EXTRACT a.o", told("x - a.o"), 6},
		{"CREATE ar.tmp~", no("ar.tmp~", api.ErrReserved), 1},
	} {
		next(t, f, x)
		if l := look(t, f)["l.a"]; x.bars != "SAVE" && l != made(both) {
			t.Errorf("%s: l.a is %q", x.bars, l.data)
		}
	}
	wantFiles(t, "behind all rows", f, files{"a.o": {"hello", api.Meta{Date: 100, UID: 7, GID: 8, Mode: 0o644}}, "b.o": {"hi", meta}, "l.a": made(both), "m.a": made(gnu(b, a, b)), "s": put("CREATE ar.tmp~\n")})
}

// next puts a script there anew and runs it.
func next(t *testing.T, f *vfs.FS, x example) {
	t.Helper()
	h, err := f.Create("s", own)
	must(t, err)
	_, err = h.Write(script(x.bars))
	must(t, err)
	f.Arm(nil)
	wantResult(t, x.bars, mri.Run(f, "s", env), x.want)
	if x.calls >= 0 {
		wantCalls(t, x.bars, f, x.calls)
	}
}

// The document's example 11, an MRI script.
func TestExampleOfTheWhole(t *testing.T) {
	list := files{"a.o": put("hello"), "b.o": put("hi")}
	wantRun(t, list, "CREATE lib.a / ADDMOD a.o, b.o / DELETE a.o / SAVE / END", told(), 4+6, list.but("lib.a", made(gnu(member("b.o", "hi")))))
}
