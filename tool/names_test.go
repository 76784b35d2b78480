package tool_test

import (
	"fmt"
	"strings"
	"testing"

	"shelf/api"
	"shelf/tool"
)

const letters = "dmpqrstx"

// noNames are names that no command may be given, and why.
func noNames() []struct {
	name, quoted string
	code         api.Errno
} {
	return []struct {
		name, quoted string
		code         api.Errno
	}{
		{temp, temp, api.ErrReserved},
		{"", "", api.ErrFileName},
		{"a/b", "a/b", api.ErrFileName},
		{"/", "/", api.ErrFileName},
		{temp + "/", temp + "/", api.ErrFileName},
		{"a\x00b", `"a\x00b"`, api.ErrFileName},
		{strings.Repeat("n", 65), strings.Repeat("n", 65), api.ErrFileName},
	}
}

// wantAhead: refused without a call, also with the power off.
func wantAhead(t *testing.T, c api.Command, want api.Result) {
	t.Helper()
	wantExec(t, files{"a.o": put("hello")}, c, want, 0, files{"a.o": put("hello")})
	f := durable(t, nil)
	f.Arm([]api.Fault{{At: 1, Kind: api.FaultDown}})
	f.SyncDir()
	wantResult(t, fmt.Sprintf("the power is off, %+v", c), tool.Exec(f, c, env), want)
	wantCalls(t, "the power is off", f, 1)
}

// 17.3: every byte that is no operation is refused ahead of every name.
func TestNoOperation(t *testing.T) {
	for op := range 256 {
		if strings.IndexByte(letters, byte(op)) >= 0 {
			continue
		}
		for _, archive := range []string{"lib.a", temp, "", "a/b"} {
			c := api.Command{Op: byte(op), Archive: archive, Names: []string{temp}}
			wantAhead(t, c, no("", api.ErrNoOp))
			c.Prog = api.Ranlib
			wantAhead(t, c, refused("ranlib", "", api.ErrNoOp))
			c.Prog = -1
			wantAhead(t, c, no("", api.ErrNoOp))
		}
	}
}

// 17.3: the archive's name, with every operation and both programs, ahead of the other names.
func TestArchiveName(t *testing.T) {
	for i := range letters {
		for _, x := range noNames() {
			for _, names := range [][]string{nil, {"a.o"}, {temp, "a/b"}, {"", temp}} {
				c := api.Command{Op: letters[i], Archive: x.name, Names: names}
				wantAhead(t, c, no(x.quoted, x.code))
				c.Prog = 2
				wantAhead(t, c, no(x.quoted, x.code))
				c.Prog = api.Ranlib
				wantAhead(t, c, refused("ranlib", x.quoted, x.code))
			}
		}
	}
}

// 17.3: the names of r, q and ranlib (with whatever operation), the first one that is none.
func TestOtherNames(t *testing.T) {
	for i := range letters {
		for _, x := range noNames() {
			for _, names := range [][]string{{x.name}, {"a.o", x.name}, {"a.o", "a.o", x.name, temp, "", "x/y"}} {
				c := api.Command{Op: letters[i], Archive: "lib.a", Names: names, Prog: api.Ranlib}
				wantAhead(t, c, refused("ranlib", x.quoted, x.code))
				if letters[i] == 'r' || letters[i] == 'q' {
					c.Prog = api.Ar
					wantAhead(t, c, no(x.quoted, x.code))
					c.Prog = 17
					wantAhead(t, c, no(x.quoted, x.code))
				}
			}
		}
	}
}

// 17.3: with every other operation the names are members', and any may be asked for; an anchor is never looked at.
func TestMembersNames(t *testing.T) {
	list := files{"lib.a": put(gnu(member("a.o", "hello")))}
	for i := range letters {
		op := letters[i]
		for _, x := range noNames() {
			c := api.Command{Op: op, Archive: "lib.a", Names: []string{x.name}, Pos: api.Pos{Anchor: x.name}}
			switch op {
			case 'd', 'm', 't', 'p', 'x':
				wantExec(t, list, c, no(x.quoted, api.ErrNoMember), 1, list)
			case 's':
				wantExec(t, list, c, api.Result{}, 7, files{"lib.a": made(list["lib.a"].data)})
			}
		}
	}
}

// 17.3: names of 64 bytes, of odd bytes, and those that only look like the tool's own are names.
func TestGoodNames(t *testing.T) {
	for _, name := range []string{strings.Repeat("n", 64), ".", "..", "-", "@x", "a b", "\n", "\xff", "AR.TMP~", "ar.tmp", "ar.tmp~~", "é"} {
		f := durable(t, files{name: put("hello")})
		c := api.Command{Op: 'q', Archive: "x" + name[1:], Quiet: true, Names: []string{name}}
		if c.Archive == name {
			c.Archive = "lib.a"
		}
		wantResult(t, fmt.Sprintf("17.3: %q", name), tool.Exec(f, c, env), api.Result{})
		c.Op = 's'
		wantResult(t, fmt.Sprintf("17.3: %q", c.Archive), tool.Exec(f, c, env), api.Result{})
	}
}

// 17.3: a program that is none counts as ar, and a kind that is none as GNU.
func TestWhatCountsAs(t *testing.T) {
	list := files{"a.o": put("hello")}
	for _, prog := range []int{-1, 2, 1 << 40} {
		for _, kind := range []api.Kind{-1, api.Thin, 3, 1 << 40} {
			c := api.Command{Prog: prog, Op: 'r', Kind: kind, Archive: "lib.a", Names: []string{"a.o"}}
			wantExec(t, list, c, api.Result{Msg: "ar: creating lib.a\n"}, 9, list.but("lib.a", made(gnu(member("a.o", "hello")))))
			c.Op = 't'
			wantExec(t, list, c, no("lib.a", api.ErrMissing), 1, list)
		}
	}
}
