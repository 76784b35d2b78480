package tool_test

import (
	"testing"

	"shelf/api"
)

// 17.5: where there is no archive, r and q make one of the kind that is asked for; nobody else does.
func TestNoArchive(t *testing.T) {
	list := files{"a.o": put("hello")}
	a := member("a.o", "hello")
	for _, op := range []byte{'r', 'q'} {
		for _, c := range []struct {
			kind api.Kind
			thin bool
			want string
		}{
			{api.GNU, false, gnu(a)}, {api.BSD, false, bsd(a)}, {api.GNU, true, thin(a)}, {api.BSD, true, thin(a)}, {api.Thin, false, gnu(a)}, {7, true, thin(a)},
		} {
			command := api.Command{Op: op, Kind: c.kind, Thin: c.thin, Archive: "lib.a", Names: []string{"a.o"}}
			wantExec(t, list, command, api.Result{Msg: "ar: creating lib.a\n"}, 9, list.but("lib.a", made(c.want)))
		}
	}
	for _, op := range []byte("dmpstx") {
		for _, c := range []api.Command{{}, {Thin: true}, {Quiet: true}, {Kind: api.BSD}, {Names: []string{"a.o"}}, {Pos: api.Pos{Where: api.After, Anchor: "z"}}} {
			c.Op, c.Archive = op, "lib.a"
			wantExec(t, list, c, no("lib.a", api.ErrMissing), 1, list)
		}
	}
}

// 17.5: an archive that is made without members.
func TestEmptyArchive(t *testing.T) {
	for _, c := range []struct{ line, want string }{
		{"ar rc lib.a", regular()}, {"ar qc lib.a", regular()}, {"ar rcT lib.a", thin()}, {"ar --thin qc lib.a", thin()}, {"ar --format=bsd rc lib.a", regular()},
	} {
		wantRun(t, nil, c.line, api.Result{}, 7, files{"lib.a": made(c.want)})
	}
}

// 17.5: what does not parse is refused with its Errno, whatever the operation, and no place is told.
func TestNoParse(t *testing.T) {
	for _, c := range []struct {
		data string
		code api.Errno
	}{
		{"", api.ErrMagic}, {"!<arch>", api.ErrMagic}, {"hello", api.ErrMagic},
		{regular("x"), api.ErrShort},
		{gnu(member("a.o", "hello"))[:72], api.ErrData},
		{gnu(member("a.o", "hello"))[:73], api.ErrPad},
		{regular(part("a/", own, ""), part("b", own, "")), api.ErrMixed},
		{regular(part("a/", own, ""), part("/", own, "")), api.ErrPlace},
		{regular(part("/x", own, "")), api.ErrName},
		{regular(part("/0", own, "")), api.ErrTable},
		{regular(part("a/", own, "")[:58] + "\n`"), api.ErrTail},
		{regular("a/              x           0     0     644     0         `\n"), api.ErrField},
		{"!<thin>\n" + part("a", own, ""), api.ErrMixed},
	} {
		list := files{"lib.a": put(c.data), "a.o": put("hello")}
		for i := range letters {
			for _, thin := range []bool{false, true} {
				command := api.Command{Op: letters[i], Archive: "lib.a", Thin: thin, Names: []string{"a.o"}}
				wantExec(t, list, command, no("lib.a", c.code), 1, list)
			}
		}
		wantRun(t, list, "ranlib lib.a", refused("ranlib", "lib.a", c.code), 1, list)
	}
}

// 17.5: with r and q thin goes to thin and regular to regular.
func TestKinds(t *testing.T) {
	a, x := member("a.o", "hello"), member("x", "ex")
	list := files{"a.o": put("hello"), "x": put("ex"), "g.a": put(gnu(a)), "b.a": put(bsd(a)), "t.a": put(thin(a)), "e.a": put(regular()), "et.a": put(thin())}
	for _, op := range []string{"q", "r"} {
		wantRun(t, list, "ar "+op+" g.a x", api.Result{}, 9, list.but("g.a", made(gnu(a, x))))
		wantRun(t, list, "ar "+op+" b.a x", api.Result{}, 9, list.but("b.a", made(bsd(a, x))))
		wantRun(t, list, "ar "+op+"T t.a x", api.Result{}, 10, list.but("t.a", made(thin(a, x))))
		wantRun(t, list, "ar "+op+" e.a x", api.Result{}, 9, list.but("e.a", made(gnu(x))))
		wantRun(t, list, "ar "+op+"T et.a x", api.Result{}, 9, list.but("et.a", made(thin(x))))
		for _, line := range []string{"T g.a x", "T b.a x", " t.a x", "T e.a", " et.a", " t.a none", "T g.a none"} {
			line = "ar " + op + line
			wantRun(t, list, line, no(args(line)[2], api.ErrKind), 1, list)
		}
	}
}

// 17.5: the kind of an archive that is there stays, whatever kind is asked for.
func TestKindStays(t *testing.T) {
	a, x := member("a.o", "hello"), member("x", "ex")
	list := files{"x": put("ex"), "g.a": put(gnu(a)), "b.a": put(bsd(a)), "t.a": put(thin(a)), "a.o": put("hello")}
	wantRun(t, list, "ar --format=bsd r g.a x", api.Result{}, 9, list.but("g.a", made(gnu(a, x))))
	wantRun(t, list, "ar --format=gnu q b.a x", api.Result{}, 9, list.but("b.a", made(bsd(a, x))))
	wantExec(t, list, api.Command{Op: 'r', Kind: api.BSD, Thin: true, Archive: "t.a", Names: []string{"x"}}, api.Result{}, 10, list.but("t.a", made(thin(a, x))))
	wantExec(t, list, api.Command{Op: 'r', Kind: api.Thin, Archive: "b.a", Names: []string{"x"}}, api.Result{}, 9, list.but("b.a", made(bsd(a, x))))
}

// 17.5: x takes no thin archive; d, m, s, t and p take either, whether or not T is given.
func TestThinAndOthers(t *testing.T) {
	a := member("a.o", "hello")
	list := files{"a.o": put("hello"), "g.a": put(gnu(a)), "t.a": put(thin(a)), "et.a": put(thin())}
	for _, names := range [][]string{nil, {"a.o"}, {"none"}} {
		for _, isThin := range []bool{false, true} {
			for _, archive := range []string{"t.a", "et.a"} {
				c := api.Command{Op: 'x', Thin: isThin, Archive: archive, Names: names}
				wantExec(t, list, c, no(archive, api.ErrThin), 1, list)
			}
		}
	}
	for _, isThin := range []bool{false, true} {
		for _, op := range []byte("ms") {
			wantExec(t, list, api.Command{Op: op, Thin: isThin, Archive: "g.a"}, api.Result{}, 7, list.but("g.a", made(gnu(a))))
			wantExec(t, list, api.Command{Op: op, Thin: isThin, Archive: "t.a"}, api.Result{}, 8, list.but("t.a", made(thin(a))))
		}
		wantExec(t, list, api.Command{Op: 'd', Thin: isThin, Archive: "g.a", Names: []string{"a.o"}}, api.Result{}, 7, list.but("g.a", made(gnu())))
		wantExec(t, list, api.Command{Op: 'd', Thin: isThin, Archive: "t.a", Names: []string{"a.o"}}, api.Result{}, 7, list.but("t.a", made(thin())))
		for _, archive := range []string{"g.a", "t.a"} {
			wantExec(t, list, api.Command{Op: 't', Thin: isThin, Archive: archive}, out("a.o"), 1, list)
		}
		wantExec(t, list, api.Command{Op: 'p', Thin: isThin, Archive: "g.a"}, api.Result{Out: "hello"}, 1, list)
		wantExec(t, list, api.Command{Op: 'p', Thin: isThin, Archive: "t.a"}, api.Result{Out: "hello"}, 2, list)
	}
}

// 17.5: the first call reads the archive; struck, it is refused with the archive's name, also where there is none.
func TestLoadStruck(t *testing.T) {
	for _, list := range []files{{"a.o": put("hello")}, {"a.o": put("hello"), "lib.a": put(gnu(member("a.o", "hello")))}} {
		for i := range letters {
			for _, kind := range kinds() {
				f := durable(t, list)
				f.Arm([]api.Fault{{At: 1, Kind: kind}})
				c := api.Command{Op: letters[i], Archive: "lib.a", Names: []string{"a.o"}}
				wantResult(t, "17.5: "+letters[i:i+1], exec(f, c), no("lib.a", struck(kind)))
				wantCalls(t, "17.5: "+letters[i:i+1], f, 1)
			}
		}
	}
}
