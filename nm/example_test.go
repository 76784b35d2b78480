package nm_test

import (
	"strings"
	"testing"

	"shelf/api"
	"shelf/nm"
	"shelf/tool"
)

// The chapter's examples of Letter, row by row.
func TestLetterExamples(t *testing.T) {
	three := make([]api.Section, 3)
	wantLetter(t, 1, 0, 0, three, 'U')
	wantLetter(t, 0, 0, 0, three, 'U')
	wantLetter(t, 2, 0, 0, three, 'w')
	wantLetter(t, 0, 0, 0xfff2, three, 'C')
	wantLetter(t, 2, 0, 0xfff2, three, 'C')
	wantLetter(t, 2, 1, 1, three, 'V')
	wantLetter(t, 2, 2, 1, three, 'W')
	wantLetter(t, 2, 0, 0xfff1, three, 'W')
	wantLetter(t, 1, 0, 0xfff1, three, 'A')
	wantLetter(t, 0, 0, 0xfff1, three, 'a')
	wantLetter(t, 0, 0, 5, three, '?')
	wantLetter(t, 2, 0, 5, three, 'W')
	wantLetter(t, 1, 0, 1, []api.Section{{}, {Type: 8, Flags: 7}}, 'B')
	for i, flags := range []uint64{7, 3, 2, 0, 18} {
		wantLetter(t, 1, 0, 1, []api.Section{{}, {Type: 1, Flags: flags}}, "TDRNR"[i])
	}
}

// The chapter's examples of Sort and Text, row by row.
func TestSortAndTextExamples(t *testing.T) {
	rows := named("b:5:1:T1 a:9:1:T1 a:2:1:T1")
	wantSort(t, rows, "", 2, 1, 0)
	wantSort(t, rows, "n", 2, 0, 1)
	wantSort(t, rows, "nr", 1, 0, 2)
	wantSort(t, rows, "pr", 2, 1, 0)
	wantSort(t, named("z:0:0:U1 y:0:1:T1 x:3:0:U1"), "n", 0, 2, 1)
	wantText(t, 64, "", "0000000000001000 T main\n", row("main", 4096, 1))
	wantText(t, 32, "a.o:", "a.o:"+strings.Repeat(" ", 8)+" U puts\n", row("puts", 0, 0))
	d := row("a b", 1<<32, 1)
	d.Letter = 'd'
	wantText(t, 32, "", "100000000 d \"a b\"\n", d)
}

// The chapter's examples of Run, row by row.
func TestRunExamples(t *testing.T) {
	f := durable(t, files{"a.o": object(global("main"), needed("puts")), "t.txt": "hi"})
	if r := tool.Run(f, strings.Fields("ar rc lib.a a.o t.txt"), api.Env{}); r.Code != api.OK {
		t.Fatal(r)
	}
	const line = "nm: lib.a(t.txt): not ELF\n"
	for _, x := range []struct {
		args string
		want api.Result
	}{
		{"a.o", told("0000000000000000 T main\n" + blanks + " U puts\n")},
		{"-u a.o", told(blanks + " U puts\n")},
		{"t.txt", api.Result{Msg: "nm: t.txt: not ELF\n", Code: api.ErrNoELF}},
		{"-s lib.a", api.Result{Out: "Archive index:\nmain in a.o\n\n\na.o:\n" + both + "\nt.txt:\n", Msg: line, Code: api.ErrNoELF}},
		{"-A lib.a a.o", api.Result{Out: "lib.a:a.o:" + mainLine + "lib.a:a.o:" + putsLine + "a.o:" + mainLine + "a.o:" + putsLine, Msg: line, Code: api.ErrNoELF}},
		{"-gx a.o", api.Result{Msg: "nm: x: unknown option letter\n", Code: api.ErrNmLetter}},
		{"", api.Result{Msg: "nm: no file named\n", Code: api.ErrNoFile}},
		{"-g", api.Result{Msg: "nm: no file named\n", Code: api.ErrNoFile}},
		{"a.o none", api.Result{Out: "\na.o:\n" + both, Msg: "nm: none: no such file\n", Code: api.ErrMissing}},
		{"ar.tmp~", api.Result{Msg: "nm: ar.tmp~: reserved name\n", Code: api.ErrReserved}},
	} {
		f.Arm(nil)
		wantResult(t, "nm "+x.args, nm.Run(f, strings.Fields(x.args)), x.want)
	}
	wantCalls(t, "nm ar.tmp~", f, 0)
}
