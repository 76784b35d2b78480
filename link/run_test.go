package link_test

import (
	"fmt"
	"maps"
	"slices"
	"strings"
	"testing"

	"shelf/api"
	"shelf/link"
)

// wantRun: on a new volume with these files the answer is this, by so many calls, and no file is changed.
func wantRun(t *testing.T, list files, root, archives string, want api.Result, calls int) {
	t.Helper()
	what := fmt.Sprintf("Run(%s, %s)", root, archives)
	f := volume(t, list)
	wantResult(t, what, link.Run(f, root, words(archives)), want)
	if f.Calls() != calls {
		t.Errorf("%s: %d calls, want %d", what, f.Calls(), calls)
	}
	if got := look(t, f); !maps.Equal(got, list) {
		t.Errorf("%s: the files are %q now", what, got)
	}
}

// Members that go together: main needs f, f needs x, x needs nothing.
func mainO() api.Member { return member("m.o", object("main", "f")) }
func fO() api.Member    { return member("f.o", object("f", "x")) }
func xO() api.Member    { return member("x.o", object("x y", "")) }

// shelves are archives of all kinds, and files that are none.
func shelves(t *testing.T) files {
	t.Helper()
	return files{
		"lib.a":   packed(t, api.GNU, mainO(), fO()),
		"bsd.a":   packed(t, api.BSD, xO(), fO()),
		"wide.a":  wide(t, api.GNU, fO(), xO()),
		"thin.a":  packed(t, api.Thin, xO()),
		"text.a":  packed(t, api.GNU, member("t", "text")),
		"empty.a": "!<arch>\n",
		"bare.a":  bare(t, api.GNU, member("t", "text"), xO()),
		"bad.a":   "!<arch>\nx",
		"x.o":     xO().Data,
		"left~":   "",
		"none":    "",
	}
}

// 18.7: the lines of Out, and the code.
func TestRun(t *testing.T) {
	list := shelves(t)
	wantRun(t, list, "main", "", out("undefined: main"), 0)
	wantRun(t, list, "main", "empty.a", out("undefined: main"), 1)
	wantRun(t, list, "main", "text.a empty.a", out("undefined: main"), 2)
	wantRun(t, list, "main", "lib.a", out("lib.a(m.o)", "lib.a(f.o)", "undefined: x"), 1)
	wantRun(t, list, "f", "lib.a", out("lib.a(f.o)", "undefined: x"), 1)
	wantRun(t, list, "main", "lib.a bsd.a", out("lib.a(m.o)", "lib.a(f.o)", "bsd.a(x.o)"), 2)
	wantRun(t, list, "main", "bsd.a lib.a", out("lib.a(m.o)", "lib.a(f.o)", "bsd.a(x.o)"), 2)
	wantRun(t, list, "f", "bsd.a", out("bsd.a(f.o)", "bsd.a(x.o)"), 1)
	wantRun(t, list, "f", "wide.a lib.a", out("wide.a(f.o)", "wide.a(x.o)"), 2)
	wantRun(t, list, "main", "wide.a lib.a", out("lib.a(m.o)", "lib.a(f.o)", "wide.a(x.o)"), 2)
	wantRun(t, list, "main", "lib.a thin.a", out("lib.a(m.o)", "lib.a(f.o)", "thin.a(x.o)"), 3)
	wantRun(t, list, "y", "thin.a", out("thin.a(x.o)"), 2)
	wantRun(t, list, "z", "thin.a lib.a bsd.a wide.a", out("undefined: z"), 5)
	wantRun(t, list, "local", "lib.a", out("undefined: local"), 1)
}

// 18.7: several names stay undefined, in their order, each one time.
func TestUndefined(t *testing.T) {
	list := files{"a": packed(t, api.GNU, member("1", object("main", "z b a z f")), member("2", object("f", "c a q")), member("3", object("q", "main")))}
	wantRun(t, list, "main", "a", out("a(1)", "a(2)", "a(3)", "undefined: z", "undefined: b", "undefined: a", "undefined: c"), 1)
}

// 18.7: an archive that is named twice is read twice, and is two libraries.
func TestNamedTwice(t *testing.T) {
	list := shelves(t)
	wantRun(t, list, "main", "lib.a lib.a", out("lib.a(m.o)", "lib.a(f.o)", "undefined: x"), 2)
	wantRun(t, list, "main", "lib.a thin.a lib.a thin.a", out("lib.a(m.o)", "lib.a(f.o)", "thin.a(x.o)"), 6)
	liar := indexed(t, api.GNU, api.Index32, encoded(t, api.Index32, "f:78"), member("t", "text"))
	wantRun(t, files{"liar.a": liar}, "f", "liar.a liar.a liar.a", out("liar.a(t)", "liar.a(t)", "liar.a(t)", "undefined: f"), 3)
}

// 18.7: names are told by Quote: the archive's, the member's, those that stay undefined.
func TestQuoted(t *testing.T) {
	odd := member("m \"o", objectOf(symbol{"a b", 1, 1}, symbol{"c\nd", 1, 0}, symbol{"\xff", 1, 0}, symbol{"é", 1, 0}))
	list := files{"my lib": packed(t, api.BSD, odd), "é.a": packed(t, api.GNU, odd)}
	f := volume(t, list)
	got := link.Run(f, "a b", []string{"my lib"})
	wantResult(t, "18.7", got, out(`"my lib"("m \"o")`, `undefined: "c\nd"`, `undefined: "\xff"`, "undefined: é"))
	got = link.Run(f, "a b", []string{"é.a", "my lib"})
	wantResult(t, "18.7", got, out(`é.a("m \"o")`, `undefined: "c\nd"`, `undefined: "\xff"`, "undefined: é"))
	wantResult(t, "18.7: the empty name", link.Run(f, "", []string{"é.a"}), out(`undefined: ""`))
	wantResult(t, "18.6: a refusal", link.Run(f, "a", []string{"no lib"}), api.Result{Msg: "ld: \"no lib\": no such file\n", Code: api.ErrMissing})
	wantResult(t, "18.6: a refusal", link.Run(f, "a", []string{""}), api.Result{Msg: "ld: \"\": bad file name\n", Code: api.ErrFileName})
	wantResult(t, "18.6: a refusal", link.Run(f, "a", []string{"a\x00"}), api.Result{Msg: "ld: \"a\\x00\": bad file name\n", Code: api.ErrFileName})
	thin := bare(t, api.Thin, member("no \n", "x"))
	wantResult(t, "18.6: a refusal", link.Run(volume(t, files{"t": thin}), "a", []string{"t"}), api.Result{Msg: "ld: \"no \\n\": member file missing\n", Code: api.ErrLost})
}

// 18.6: the first refusal ends it: what stands behind it is not read, and what stands ahead of it is not told.
func TestFirstRefusal(t *testing.T) {
	list := shelves(t)
	for _, x := range []struct {
		name string
		code api.Errno
		call int // is it read?
	}{
		{"ar.tmp~", api.ErrReserved, 0}, {"no.a", api.ErrMissing, 1}, {"a/b", api.ErrFileName, 1}, {strings.Repeat("n", 65), api.ErrFileName, 1},
		{"bad.a", api.ErrShort, 1}, {"x.o", api.ErrMagic, 1}, {"none", api.ErrMagic, 1}, {"bare.a", api.ErrNoIndex, 1},
	} {
		for _, behind := range []string{"", "lib.a", "no.a", "ar.tmp~", "bad.a thin.a"} {
			wantRun(t, list, "main", x.name+" "+behind, no(x.name, x.code), x.call)
			wantRun(t, list, "main", "lib.a "+x.name+" "+behind, no(x.name, x.code), 1+x.call)
			wantRun(t, list, "main", "thin.a lib.a "+x.name+" "+behind, no(x.name, x.code), 3+x.call)
		}
	}
	wantRun(t, list, "main", "ar.tmp~~ lib.a", no("ar.tmp~~", api.ErrMissing), 1)
	wantRun(t, list.but("ar.tmp~", list["lib.a"]), "main", "ar.tmp~", no("ar.tmp~", api.ErrReserved), 0)
}

// but is the files with one more, or with another one of this name.
func (list files) but(name, data string) files {
	more := maps.Clone(list)
	more[name] = data
	return more
}

// 18.6: what Parse and Open refuse.
func TestParseAndOpenRefuse(t *testing.T) {
	x := xO()
	for _, c := range []struct {
		data string
		code api.Errno
	}{
		{"", api.ErrMagic}, {"!<arch>", api.ErrMagic}, {"!<arch>\n" + strings.Repeat(" ", 60), api.ErrTail},
		{packed(t, api.GNU, x)[:200], api.ErrData},
		{bare(t, api.GNU, x), api.ErrNoIndex}, {bare(t, api.BSD, x), api.ErrNoIndex},
		{indexed(t, api.GNU, api.Index32, "x", x), api.ErrIndex}, {indexed(t, api.GNU, api.Index64, "x", x), api.ErrIndex}, {indexed(t, api.BSD, api.IndexBSD, "x", x), api.ErrIndex},
		{indexed(t, api.GNU, api.Index32, encoded(t, api.Index32, "x:9"), x), api.ErrIndex},
		{indexed(t, api.GNU, api.Index64, encoded(t, api.Index64, "x:8"), x), api.ErrIndex},
		{indexed(t, api.BSD, api.IndexBSD, encoded(t, api.IndexBSD, "x:0"), x), api.ErrIndex},
	} {
		wantRun(t, files{"a": c.data}, "x", "a", no("a", c.code), 1)
		wantRun(t, files{"a": c.data, "b": "!<arch>\n"}, "x", "b a", no("a", c.code), 2)
	}
}

// 18.6, 4: a thin archive's members, each by itself: its file there, missing, of another length, reserved, no name, and none wanted.
func TestThinMembers(t *testing.T) {
	x, empty := xO(), member("e", "")
	long := member(strings.Repeat("n", 65), "data")
	own := member("ar.tmp~", "data")
	noData := member("ar.tmp~", "")
	text := member("t", "text")
	for _, c := range []struct {
		members []api.Member
		list    files
		want    api.Result
		calls   int
	}{
		{[]api.Member{x}, files{"x.o": x.Data}, out("thin.a(x.o)"), 2},
		{[]api.Member{x}, files{}, no("x.o", api.ErrLost), 2},
		{[]api.Member{x}, files{"x.o": x.Data + "!"}, no("x.o", api.ErrStale), 2},
		{[]api.Member{x}, files{"x.o": x.Data[1:]}, no("x.o", api.ErrStale), 2},
		{[]api.Member{x}, files{"x.o": ""}, no("x.o", api.ErrStale), 2},
		{[]api.Member{x}, files{"x.o": strings.Repeat("x", len(x.Data))}, out("thin.a(x.o)", "undefined: x"), 2},
		{[]api.Member{x, empty}, files{"x.o": x.Data}, out("thin.a(x.o)"), 2},
		{[]api.Member{empty, x}, files{"x.o": x.Data, "e": "is not read"}, out("thin.a(x.o)"), 2},
		{[]api.Member{x, noData}, files{"x.o": x.Data}, out("thin.a(x.o)"), 2},
		{[]api.Member{x, member(strings.Repeat("n", 65), "")}, files{"x.o": x.Data}, out("thin.a(x.o)"), 2},
		{[]api.Member{x, own}, files{"x.o": x.Data, "ar.tmp~": "data"}, no("ar.tmp~", api.ErrReserved), 2},
		{[]api.Member{own, x}, files{}, no("ar.tmp~", api.ErrReserved), 1},
		{[]api.Member{x, long}, files{"x.o": x.Data}, no(long.Name, api.ErrLost), 3},
		{[]api.Member{x, text}, files{"x.o": x.Data, "t": "text"}, out("thin.a(x.o)"), 3},
		{[]api.Member{x, text, own}, files{"x.o": x.Data}, no("t", api.ErrLost), 3},
		{[]api.Member{text, x, own}, files{"t": "tex", "x.o": ""}, no("t", api.ErrStale), 2},
		{[]api.Member{text, x, text}, files{"t": "text", "x.o": x.Data}, out("thin.a(x.o)"), 4},
	} {
		wantRun(t, c.list.but("thin.a", packed(t, api.Thin, c.members...)), "x", "thin.a", c.want, c.calls)
	}
}

// 18.6, 4 stands ahead of 5, and behind 3: a thin archive's files are read ahead of its index, and a spoilt one's are not.
func TestThinOrder(t *testing.T) {
	x := xO()
	bad := indexed(t, api.Thin, api.Index32, "x", x)
	wantRun(t, files{"t": bad}, "x", "t", no("x.o", api.ErrLost), 2)
	wantRun(t, files{"t": bad, "x.o": x.Data}, "x", "t", no("t", api.ErrIndex), 2)
	wantRun(t, files{"t": bare(t, api.Thin, x), "x.o": x.Data}, "x", "t", no("t", api.ErrNoIndex), 2)
	wantRun(t, files{"t": bare(t, api.Thin, x), "x.o": x.Data[1:] + "!"}, "x", "t", out("undefined: x"), 2)
	wantRun(t, files{"t": packed(t, api.Thin, x) + "x", "x.o": x.Data}, "x", "t", no("t", api.ErrShort), 1)
	wantRun(t, files{"t": packed(t, api.Thin, x), "u": bad, "x.o": x.Data}, "x", "t no", no("no", api.ErrMissing), 3)
}

// 18.6: a regular archive's members are in it: files of their names are not read.
func TestRegularReadsNoFile(t *testing.T) {
	for _, kind := range []api.Kind{api.GNU, api.BSD} {
		list := files{"lib": packed(t, kind, mainO(), fO(), xO(), member("ar.tmp~", "own")), "m.o": "x", "x.o": ""}
		wantRun(t, list, "main", "lib", out("lib(m.o)", "lib(f.o)", "lib(x.o)"), 1)
	}
}

// 18.6: each call struck by each kind of fault: the name is that of the file which was read.
func TestStruck(t *testing.T) {
	list := shelves(t)
	archives := words("lib.a thin.a text.a thin.a bsd.a")
	reads := words("lib.a thin.a x.o text.a thin.a x.o bsd.a")
	for k, name := range reads {
		for kind, code := range map[int]api.Errno{api.FaultIO: api.ErrIO, api.FaultShort: api.ErrIO, api.FaultDown: api.ErrDown} {
			f := volume(t, list)
			f.Arm([]api.Fault{{At: k + 1, Kind: kind}})
			what := fmt.Sprintf("18.6: fault %d at call %d", kind, k+1)
			wantResult(t, what, link.Run(f, "main", archives), no(name, code))
			if f.Calls() != k+1 || f.Down() != (kind == api.FaultDown) {
				t.Errorf("%s: %d calls, down %v", what, f.Calls(), f.Down())
			}
			f.Restart(0, nil)
			if got := look(t, f); !maps.Equal(got, list) {
				t.Errorf("%s: the files are %q now", what, got)
			}
		}
	}
	f := volume(t, list)
	f.Arm([]api.Fault{{At: len(reads) + 1, Kind: api.FaultDown}})
	wantResult(t, "18.6: a fault behind the last call", link.Run(f, "main", archives), out("lib.a(m.o)", "lib.a(f.o)", "thin.a(x.o)"))
}

// 18.6: with the power off nothing can be read; what needs no call is answered as ever.
func TestPowerOff(t *testing.T) {
	f := volume(t, shelves(t))
	f.Arm([]api.Fault{{At: 1, Kind: api.FaultDown}})
	f.SyncDir()
	wantResult(t, "18.6", link.Run(f, "main", words("lib.a no.a")), no("lib.a", api.ErrDown))
	wantResult(t, "18.6", link.Run(f, "main", words("a/b")), no("a/b", api.ErrDown))
	wantResult(t, "18.6", link.Run(f, "main", words("ar.tmp~ lib.a")), no("ar.tmp~", api.ErrReserved))
	wantResult(t, "18.7", link.Run(f, "main", nil), out("undefined: main"))
}

// 18.7: the archive and its members may be told by one name, and members of one name are told alike.
func TestLikeNames(t *testing.T) {
	list := files{"a": packed(t, api.GNU, member("a", object("main", "f")), member("a", object("f", "")), member("b", object("g", "")))}
	wantRun(t, list, "main", "a", out("a(a)", "a(a)"), 1)
	wantRun(t, list, "g", "a", out("a(b)"), 1)
}

// R4: the list of archives is neither changed nor kept, its spare room included.
func TestArchivesStay(t *testing.T) {
	room := words("lib.a thin.a spare room")
	before := slices.Clone(room)
	f := volume(t, shelves(t))
	wantResult(t, "R4", link.Run(f, "main", room[:2]), out("lib.a(m.o)", "lib.a(f.o)", "thin.a(x.o)"))
	wantResult(t, "R4", link.Run(f, "main", room[:3]), no("spare", api.ErrMissing))
	if !slices.Equal(room, before) {
		t.Errorf("R4: the archives are %q now", room)
	}
}
