package nm_test

import (
	"fmt"
	"strings"
	"testing"

	"shelf/api"
)

// notELF is the line that is said of a member that is no ELF file.
func notELF(file, member string) string { return file + "(" + member + "): not ELF" }

// 20.8: a member whose Rows are refused is said, and it goes on with the next one, wherever it stands.
func TestMemberSaid(t *testing.T) {
	text, a := part("t.txt/", "hi"), part("a.o/", mainO())
	said1 := notELF("x", "t.txt")
	for _, c := range []struct {
		parts []string
		out   string
		lines []string
	}{
		{[]string{text}, "\nt.txt:\n", []string{said1}},
		{[]string{text, a}, "\nt.txt:\n\na.o:\n" + both, []string{said1}},
		{[]string{a, text}, "\na.o:\n" + both + "\nt.txt:\n", []string{said1}},
		{[]string{a, text, a}, "\na.o:\n" + both + "\nt.txt:\n\na.o:\n" + both, []string{said1}},
		{[]string{text, text, a, text}, "\nt.txt:\n\nt.txt:\n\na.o:\n" + both + "\nt.txt:\n", []string{said1, said1, said1}},
		{[]string{part("void/", ""), a}, "\nvoid:\n\na.o:\n" + both, []string{notELF("x", "void")}},
		{[]string{part("in.a/", regular(a))}, "\nin.a:\n", []string{notELF("x", "in.a")}},
	} {
		list := files{"x": regular(c.parts...)}
		wantRun(t, list, "x", said(c.out, api.ErrNoELF, c.lines...), 1)
	}
	prefixed := "x:a.o:" + mainLine + "x:a.o:" + putsLine
	wantRun(t, files{"x": regular(a, text, a)}, "-A x", said(prefixed+prefixed, api.ErrNoELF, said1), 1)
	wantRun(t, files{"x": regular(text)}, "-A x", said("", api.ErrNoELF, said1), 1)
}

// 20.8: what is said of each refusal of Rows, its words.
func TestMemberRefusals(t *testing.T) {
	b := mainO()
	for what, x := range spoilt(b) {
		list := files{"x": regular(part("bad.o/", x.b), part("a.o/", b))}
		wantRun(t, list, "-p x", said("\nbad.o:\n\na.o:\n"+both, x.e, "x(bad.o): "+x.e.Error()), 1)
		if t.Failed() {
			t.Fatal(what)
		}
	}
	wantRun(t, files{"x": regular(part("bad.o/", changed(b, 4, "\x03")))}, "x", said("\nbad.o:\n", api.ErrClass, "x(bad.o): "+api.ErrClass.Error()), 1)
}

// 20.8: names are quoted, in the heading, in the prefix, in what is said.
func TestMemberQuoted(t *testing.T) {
	list := files{"my lib": regular(part("a b.o/", mainO()), part("\xff/", "hi"), part("é/", ""), part(`"/`, mainO()))}
	lines := []string{`"my lib"("\xff"): not ELF`, `"my lib"(é): not ELF`}
	wantWords(t, list, []string{"-u", "my lib"}, said("\n\"a b.o\":\n"+putsLine+"\n\"\\xff\":\n\né:\n\n\"\\\"\":\n"+putsLine, api.ErrNoELF, lines...), 1)
	wantWords(t, list, []string{"-Au", "my lib"}, said(`"my lib":"a b.o":`+putsLine+`"my lib":"\"":`+putsLine, api.ErrNoELF, lines...), 1)
}

// 20.8: rows of each member are those of its own class, and picked and put in order by themselves.
func TestMemberRows(t *testing.T) {
	list := files{"x": regular(part("n.o/", narrowO()), part("mix.o/", mixO()), part("a.o/", mainO()))}
	wantRun(t, list, "x", told("\nn.o:\n"+narrowLines+"\nmix.o:\n"+mixLines("ablmp")+"\na.o:\n"+both), 1)
	wantRun(t, list, "-r x", told("\nn.o:\n         U x\n00000010 D n\n\nmix.o:\n"+mixLines("pmlba")+"\na.o:\n"+putsLine+mainLine), 1)
	wantRun(t, list, "-gn x", told("\nn.o:\n         U x\n00000010 D n\n\nmix.o:\n"+mixLines("mpba")+"\na.o:\n"+putsLine+mainLine), 1)
	wantRun(t, list, "-up x", told("\nn.o:\n         U x\n\nmix.o:\n"+mixLines("pm")+"\na.o:\n"+putsLine), 1)
	long := files{"x": regular(part("#1/6", "a b  c"+mainO()), part("a.o", mainO()))}
	wantRun(t, long, "-u x", told("\n\"a b  c\":\n"+putsLine+"\na.o:\n"+putsLine), 1)
}

// ref is a thin archive of members with these names and sizes, by way of a table of long names.
func ref(members ...inside) string {
	table, heads := "", ""
	for _, m := range members {
		heads += head(fmt.Sprint("/", len(table)), len(m.data))
		table += m.name + "/\n"
	}
	return thin(part("//", table), heads)
}

// 20.8: a thin archive's members have the bytes of their files, one ReadFile each in order; a file that stands there twice is read twice.
func TestThin(t *testing.T) {
	a, n, text := inside{"a.o", mainO()}, inside{"n.o", narrowO()}, inside{"t.txt", "hi"}
	list := files{"x": ref(a, text, n, a), "a.o": mainO(), "n.o": narrowO(), "t.txt": "hi"}
	out := "\na.o:\n" + both + "\nt.txt:\n\nn.o:\n" + narrowLines + "\na.o:\n" + both
	wantRun(t, list, "x", said(out, api.ErrNoELF, notELF("x", "t.txt")), 5)
	wantRun(t, list, "-Au x", said("x:a.o:"+putsLine+"x:n.o:         U x\nx:a.o:"+putsLine, api.ErrNoELF, notELF("x", "t.txt")), 5)
	list["x"] = ref(a, n)
	out = "\na.o:\n" + both
	wantStruck(t, list, "x", []string{"x", "a.o", "n.o"}, []string{"", "", out})
	wantStruck(t, list, "-A x", []string{"x", "a.o", "n.o"}, []string{"", "", "x:a.o:" + mainLine + "x:a.o:" + putsLine})
	wantStruck(t, list, "x a.o", []string{"x", "a.o", "n.o", "a.o"}, []string{"", "\nx:\n", "\nx:\n" + out, "\nx:\n" + out + "\nn.o:\n" + narrowLines})
}

// 20.8: a member's file that is missing, of another length, reserved, or of a name that no file has: what it is refused with, ahead of its heading.
func TestThinRefused(t *testing.T) {
	b := mainO()
	good := inside{"a.o", b}
	for _, c := range []struct {
		name  string
		quote string
		data  string // what the file has; "-": there is none
		code  api.Errno
		calls int
	}{
		{"b.o", "b.o", "-", api.ErrLost, 1}, {strings.Repeat("n", 65), strings.Repeat("n", 65), "-", api.ErrLost, 1}, {"no file", `"no file"`, "-", api.ErrLost, 1},
		{"b.o", "b.o", "", api.ErrStale, 1}, {"b.o", "b.o", b[1:], api.ErrStale, 1}, {"b.o", "b.o", b + "x", api.ErrStale, 1}, {"b o", `"b o"`, "x", api.ErrStale, 1},
		{temp, temp, b, api.ErrReserved, 0}, {temp, temp, "-", api.ErrReserved, 0}, {temp, temp, "x", api.ErrReserved, 0},
	} {
		list := files{"a.o": b, "x": ref(good, inside{c.name, b}, good), "y": ref(inside{c.name, b})}
		if c.data != "-" {
			list[c.name] = c.data
		}
		wantRun(t, list, "x", no(c.quote, c.code, "\na.o:\n"+both), 2+c.calls)
		wantRun(t, list, "y", no(c.quote, c.code, ""), 1+c.calls)
		wantRun(t, list, "y a.o", no(c.quote, c.code, "\ny:\n"), 1+c.calls)
		wantRun(t, list, "-Au x", no(c.quote, c.code, "x:a.o:"+putsLine), 2+c.calls)
		wantRun(t, list, "-u a.o x a.o", no(c.quote, c.code, "\na.o:\n"+putsLine+"\nx:\n\na.o:\n"+putsLine), 3+c.calls)
	}
}

// 20.8: a member of Size 0 asks for no file, whatever its name is: it has no data, and that is no ELF file.
func TestThinOfNothing(t *testing.T) {
	for _, name := range []string{"gone", temp, "a.o", strings.Repeat("n", 65)} {
		list := files{"x": ref(inside{name, ""}), "a.o": mainO()}
		wantRun(t, list, "x", said("\n"+name+":\n", api.ErrNoELF, notELF("x", name)), 1)
		list["x"] = ref(inside{"a.o", mainO()}, inside{name, ""}, inside{"a.o", mainO()})
		wantRun(t, list, "-Au x", said("x:a.o:"+putsLine+"x:a.o:"+putsLine, api.ErrNoELF, notELF("x", name)), 3)
	}
}

// 20.8: a regular archive's members are not looked for on the volume, whatever their names are.
func TestRegularAsksForNoFile(t *testing.T) {
	list := files{"x": regular(part(temp+"/", mainO()), part("gone/", mainO()), part("a.o/", mainO())), "a.o": "other bytes"}
	wantRun(t, list, "-u x", told("\nar.tmp~:\n"+putsLine+"\ngone:\n"+putsLine+"\na.o:\n"+putsLine), 1)
}

// 20.8: a thin archive may name itself, and another archive: their bytes are data of a member, and no ELF file.
func TestThinOfArchives(t *testing.T) {
	lib := regular(part("a.o/", mainO()))
	list := files{"x": ref(inside{"lib.a", lib}), "lib.a": lib}
	wantRun(t, list, "x", said("\nlib.a:\n", api.ErrNoELF, notELF("x", "lib.a")), 2)
	size := len(ref(inside{"x", "hi"}))
	self := thin(part("//", "x/\n"), head("/0", size))
	wantRun(t, files{"x": self}, "x", said("\nx:\n", api.ErrNoELF, notELF("x", "x")), 2)
}

// 20.9: the Code is that of the first line that was said, over all files; OK without one.
func TestCode(t *testing.T) {
	b := mainO()
	class, version, text := part("c.o/", changed(b, 4, "\x03")), part("v.o/", changed(b, 6, "\x03")), part("t/", "hi")
	list := files{"good": regular(part("a.o/", b)), "a.o": b, "x": regular(class, text), "y": regular(text, version), "z": regular(part("a.o/", b), version, class)}
	c, v := "(c.o): "+api.ErrClass.Error(), "(v.o): "+api.ErrVersion.Error()
	for _, x := range []struct {
		args  string
		code  api.Errno
		lines []string
	}{
		{"good a.o good", api.OK, nil},
		{"x", api.ErrClass, []string{"x" + c, notELF("x", "t")}},
		{"y", api.ErrNoELF, []string{notELF("y", "t"), "y" + v}},
		{"z", api.ErrVersion, []string{"z" + v, "z" + c}},
		{"x y", api.ErrClass, []string{"x" + c, notELF("x", "t"), notELF("y", "t"), "y" + v}},
		{"y x", api.ErrNoELF, []string{notELF("y", "t"), "y" + v, "x" + c, notELF("x", "t")}},
		{"good z a.o y good", api.ErrVersion, []string{"z" + v, "z" + c, notELF("y", "t"), "y" + v}},
	} {
		f := durable(t, list)
		got := runOf(f, x.args)
		got.Out = ""
		wantResult(t, "20.9: "+x.args, got, said("", x.code, x.lines...))
	}
}

// 20.9: a refusal behind what was said: its line stands behind those, and its code counts.
func TestRefusedBehindSaid(t *testing.T) {
	list := files{"x": regular(part("c.o/", changed(mainO(), 4, "\x03")), part("t/", "hi")), "t": ref(inside{"a.o", "hi"}, inside{"gone", "x"}), "a.o": "hi", "bad.a": regular() + "x"}
	lines := "nm: x(c.o): " + api.ErrClass.Error() + "\nnm: x(t): not ELF\n"
	out := "\nx:\n\nc.o:\n\nt:\n"
	for _, c := range []struct {
		args string
		want api.Result
	}{
		{"x gone", no("gone", api.ErrMissing, out)}, {"x " + temp, no(temp, api.ErrReserved, out)}, {"x a.o", no("a.o", api.ErrNoELF, out+"\na.o:\n")}, {"x bad.a x", no("bad.a", api.ErrShort, out+"\nbad.a:\n")},
	} {
		c.want.Msg = lines + c.want.Msg
		wantResult(t, "20.9: "+c.args, runOf(durable(t, list), c.args), c.want)
	}
	want := api.Result{Out: "\na.o:\n", Msg: "nm: t(a.o): not ELF\nnm: gone: member file missing\n", Code: api.ErrLost}
	wantRun(t, list, "t", want, 3)
}
