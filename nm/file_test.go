package nm_test

import (
	"strings"
	"testing"

	"shelf/api"
)

const both = mainLine + putsLine

// narrowLines are the lines of narrowO, whose file is of class 32.
const narrowLines = "00000010 D n\n         U x\n"

func narrowO() string { return narrow(symbol("n", 1, 2, 0x10), needed("x")) }

// shelf is a volume with object files, archives and others.
func shelf() files {
	return files{
		"a.o": mainO(), "n.o": narrowO(), "bare.o": shapes()[1].object(sections()), "t.txt": "hi", "none": "", "my file": mainO(),
		"lib.a": regular(part("a.o/", mainO()), part("n.o/", narrowO())), "empty.a": regular(), "bsd.a": regular(part("a.o", mainO())), "thin.a": thin(head("n.o/", len(narrowO()))), "void.a": thin(),
		"bad.a": regular() + "x", "badthin.a": thin() + "x", temp: mainO(),
	}
}

// 20.6: one object file, of each class; no heading.
func TestObjectFile(t *testing.T) {
	list := shelf()
	wantRun(t, list, "a.o", told(both), 1)
	wantRun(t, list, "n.o", told(narrowLines), 1)
	wantRun(t, list, "bare.o", told(""), 1)
	wantRun(t, list, "-s a.o", told(both), 1)
	wantRun(t, list, "-A a.o", told("a.o:"+mainLine+"a.o:"+putsLine), 1)
	wantRun(t, list, "-A n.o", told("n.o:00000010 D n\nn.o:         U x\n"), 1)
	wantRun(t, list, "-A bare.o", told(""), 1)
	wantWords(t, list, []string{"my file"}, told(both), 1)
	wantWords(t, list, []string{"-A", "my file"}, told(`"my file":`+mainLine+`"my file":`+putsLine), 1)
	for _, s := range shapes() {
		b := s.object(sections(), []api.Symbol{global("main"), needed("puts")})
		want := both
		if s.class == 32 {
			want = "00000000 T main\n         U puts\n"
		}
		wantRun(t, files{"x": b}, "x", told(want), 1)
	}
}

// 20.6: several files have a heading each, unless each line tells the file.
func TestSeveralFiles(t *testing.T) {
	list := shelf()
	wantRun(t, list, "a.o n.o", told("\na.o:\n"+both+"\nn.o:\n"+narrowLines), 2)
	wantRun(t, list, "n.o a.o n.o", told("\nn.o:\n"+narrowLines+"\na.o:\n"+both+"\nn.o:\n"+narrowLines), 3)
	wantRun(t, list, "a.o a.o", told("\na.o:\n"+both+"\na.o:\n"+both), 2)
	wantRun(t, list, "bare.o bare.o", told("\nbare.o:\n\nbare.o:\n"), 2)
	wantRun(t, list, "-A a.o n.o", told("a.o:"+mainLine+"a.o:"+putsLine+"n.o:00000010 D n\nn.o:         U x\n"), 2)
	wantRun(t, list, "-Au n.o a.o", told("n.o:         U x\na.o:"+putsLine), 2)
	wantWords(t, list, []string{"my file", "n.o"}, told("\n\"my file\":\n"+both+"\nn.o:\n"+narrowLines), 2)
	wantRun(t, list, "a.o lib.a", told("\na.o:\n"+both+"\nlib.a:\n\na.o:\n"+both+"\nn.o:\n"+narrowLines), 2)
	wantRun(t, list, "empty.a void.a n.o", told("\nempty.a:\n\nvoid.a:\n\nn.o:\n"+narrowLines), 3)
	wantRun(t, list, "thin.a a.o", told("\nthin.a:\n\nn.o:\n"+narrowLines+"\na.o:\n"+both), 3)
	wantRun(t, list, "-A thin.a a.o", told("thin.a:n.o:00000010 D n\nthin.a:n.o:         U x\na.o:"+mainLine+"a.o:"+putsLine), 3)
}

// 20.6: the tool's own file's name is refused without a call, where it stands.
func TestReserved(t *testing.T) {
	list := shelf()
	wantRun(t, list, temp, no(temp, api.ErrReserved, ""), 0)
	wantRun(t, list.without(temp), temp, no(temp, api.ErrReserved, ""), 0)
	wantRun(t, list, temp+" a.o", no(temp, api.ErrReserved, ""), 0)
	wantRun(t, list, "-A a.o "+temp+" none", no(temp, api.ErrReserved, "a.o:"+mainLine+"a.o:"+putsLine), 1)
	wantRun(t, list, "a.o "+temp, no(temp, api.ErrReserved, "\na.o:\n"+both), 1)
	wantRun(t, list, temp+"~", no(temp+"~", api.ErrMissing, ""), 1)
	wantRun(t, list.but("AR.TMP~", mainO()), "AR.TMP~", told(both), 1)
}

// 20.6: a ReadFile that is refused ends it, ahead of the file's heading; the name is quoted.
func TestUnread(t *testing.T) {
	list := shelf()
	long := strings.Repeat("n", 65)
	for name, code := range map[string]api.Errno{"gone": api.ErrMissing, "a/b": api.ErrFileName, long: api.ErrFileName} {
		wantRun(t, list, name, no(name, code, ""), 1)
		wantRun(t, list, name+" a.o", no(name, code, ""), 1)
		wantRun(t, list, "a.o "+name+" a.o", no(name, code, "\na.o:\n"+both), 2)
		wantRun(t, list, "-A "+name+" a.o", no(name, code, ""), 1)
	}
	wantWords(t, list, []string{"no file"}, no(`"no file"`, api.ErrMissing, ""), 1)
	wantWords(t, list, []string{"a\x00"}, no(`"a\x00"`, api.ErrFileName, ""), 1)
	wantWords(t, list, []string{"\xff"}, no(`"\xff"`, api.ErrMissing, ""), 1)
	wantStruck(t, list, "a.o", []string{"a.o"}, []string{""})
	wantStruck(t, list, "a.o n.o bare.o", []string{"a.o", "n.o", "bare.o"}, []string{"", "\na.o:\n" + both, "\na.o:\n" + both + "\nn.o:\n" + narrowLines})
	wantStruck(t, list, "-Au lib.a a.o", []string{"lib.a", "a.o"}, []string{"", "lib.a:a.o:" + putsLine + "lib.a:n.o:         U x\n"})
}

// 20.6: with the power off no call is counted.
func TestPowerOff(t *testing.T) {
	f := durable(t, shelf())
	f.Arm([]api.Fault{{At: 1, Kind: api.FaultDown}})
	f.SyncDir()
	for _, args := range []string{"a.o", "a.o n.o", "lib.a"} {
		list := strings.Fields(args)
		wantResult(t, "20.6: the power is off: "+args, runOf(f, args), no(list[0], api.ErrDown, ""))
	}
	wantCalls(t, "20.6: the power is off", f, 1)
	wantResult(t, "20.6: the power is off", runOf(f, temp), no(temp, api.ErrReserved, ""))
	wantResult(t, "20.6: the power is off", runOf(f, "-x"), no("x", api.ErrNmLetter, ""))
}

// 20.6: what is no archive is an object file, and one whose Rows are refused ends it, behind its heading.
func TestNoObjectFile(t *testing.T) {
	b := mainO()
	bad := map[string]struct {
		b string
		e api.Errno
	}{
		"nothing": {"", api.ErrNoELF}, "text": {"hi", api.ErrNoELF}, "cut magic": {"!<arch>", api.ErrNoELF}, "other magic": {"!<arch>x", api.ErrNoELF}, "late magic": {" !<arch>\n", api.ErrNoELF}, "thick": {"!<Thin>\n", api.ErrNoELF},
		"no class": {changed(b, 4, "\x03"), api.ErrClass}, "no order": {changed(b, 5, "\x03"), api.ErrByteOrder}, "no version": {changed(b, 6, "\x00"), api.ErrVersion}, "cut header": {b[:40], api.ErrCut}, "other entries": {changed(b, 58, "\x3f"), api.ErrEntSize},
	}
	for what, x := range spoilt(b) {
		bad[what] = x
	}
	for what, x := range bad {
		list := shelf().but("x", x.b)
		wantRun(t, list, "x", no("x", x.e, ""), 1)
		wantRun(t, list, "x a.o", no("x", x.e, "\nx:\n"), 1)
		wantRun(t, list, "-A x a.o", no("x", x.e, ""), 1)
		wantRun(t, list, "-s a.o x n.o", no("x", x.e, "\na.o:\n"+both+"\nx:\n"), 2)
		if t.Failed() {
			t.Fatal(what)
		}
	}
	wantWords(t, files{"x y": "hi"}, []string{"x y"}, no(`"x y"`, api.ErrNoELF, ""), 1)
}

// 20.6: what begins with one of the two magics is an archive: each refusal of its parser ends it, behind its heading.
func TestNoArchive(t *testing.T) {
	for b, e := range map[string]api.Errno{
		regular() + "x": api.ErrShort, thin() + "x": api.ErrShort, regular(strings.Repeat(" ", 60)): api.ErrTail, regular(strings.Replace(head("a/", 0), "644", "648", 1)): api.ErrField, regular(head("a/b/", 0)): api.ErrName,
		regular(head("a/", 0), head("b", 0)): api.ErrMixed, thin(head("a", 0)): api.ErrMixed, regular(head("a/", 0), head("/", 0)): api.ErrPlace, regular(head("a/", 5)): api.ErrData, regular(part("a/", "x")[:61]): api.ErrPad, regular(head("/5", 0)): api.ErrTable,
		thin(head("/", 5)): api.ErrData, "!<arch>\n" + mainO(): api.ErrTail, regular(part("a.o/", mainO()), "x"): api.ErrShort,
	} {
		list := shelf().but("x", b)
		wantRun(t, list, "x", no("x", e, ""), 1)
		wantRun(t, list, "-s x a.o", no("x", e, "\nx:\n"), 1)
		wantRun(t, list, "-A x a.o", no("x", e, ""), 1)
		wantRun(t, list, "a.o x n.o", no("x", e, "\na.o:\n"+both+"\nx:\n"), 2)
	}
}

// 20.6: archives of each kind, and those without members.
func TestArchive(t *testing.T) {
	list := shelf()
	wantRun(t, list, "lib.a", told("\na.o:\n"+both+"\nn.o:\n"+narrowLines), 1)
	wantRun(t, list, "bsd.a", told("\na.o:\n"+both), 1)
	wantRun(t, list, "thin.a", told("\nn.o:\n"+narrowLines), 2)
	wantRun(t, list, "empty.a", told(""), 1)
	wantRun(t, list, "void.a", told(""), 1)
	wantRun(t, list, "-A lib.a", told("lib.a:a.o:"+mainLine+"lib.a:a.o:"+putsLine+"lib.a:n.o:00000010 D n\nlib.a:n.o:         U x\n"), 1)
	wantRun(t, list, "-A empty.a void.a", told(""), 2)
	wantRun(t, list, "-ru lib.a", told("\na.o:\n"+putsLine+"\nn.o:\n         U x\n"), 1)
}
