package tool_test

import (
	"fmt"
	"testing"

	"shelf/api"
	"shelf/tool"
)

// 17.10: what is told with v, and of an archive that was made, with c and without; in every operation.
func TestTold(t *testing.T) {
	for _, c := range []struct {
		line string
		want api.Result
	}{
		{"ar d lib.a a b", api.Result{}}, {"ar dv lib.a c a b a", out("d - c", "d - a", "d - b", "d - a")}, {"ar dv lib.a", api.Result{}},
		{"ar m lib.a a b", api.Result{}}, {"ar mv lib.a b a", out("m - b", "m - a")}, {"ar mvb a lib.a c", out("m - c")}, {"ar mv lib.a", api.Result{}},
		{"ar q lib.a a x", api.Result{}}, {"ar qv lib.a a x x", out("q - a", "q - x", "q - x")}, {"ar qv lib.a", api.Result{}},
		{"ar r lib.a a x", api.Result{}}, {"ar rv lib.a a x b x", out("r - a", "a - x", "r - b", "r - x")}, {"ar rv lib.a", api.Result{}},
		{"ar ruv lib.a b a x", out("r - a", "a - x")}, {"ar ruv lib.a b", api.Result{}}, {"ar rvD lib.a a", out("r - a")}, {"ar rvS lib.a y", out("a - y")},
		{"ar s lib.a", api.Result{}}, {"ar sv lib.a", api.Result{}}, {"ar sv lib.a a b", api.Result{}},
		{"ar rcv lib.a x", out("a - x")}, {"ar qc lib.a x", api.Result{}},
	} {
		v := durable(t, abac())
		wantResult(t, "17.10: "+c.line, tool.Run(v, args(c.line), env), c.want)
	}
	for _, op := range []string{"r", "q"} {
		event := map[string]string{"r": "a - x", "q": "q - x"}[op]
		for _, archive := range []string{"new.a", "-", "@"} {
			made := "ar: creating " + archive + "\n"
			wantResult(t, "17.10", tool.Run(durable(t, abac()), []string{"ar", op, archive, "x"}, env), api.Result{Msg: made})
			wantResult(t, "17.10", tool.Run(durable(t, abac()), []string{"ar", op + "vT", archive, "x"}, env), api.Result{Out: event + "\n", Msg: made})
			wantResult(t, "17.10", tool.Run(durable(t, abac()), []string{"ar", op + "vc", archive, "x"}, env), out(event))
			wantResult(t, "17.10", tool.Run(durable(t, abac()), []string{"ar", op + "c", archive, "x"}, env), api.Result{})
			wantResult(t, "17.10", tool.Run(durable(t, abac()), []string{"ar", op + "v", archive}, env), api.Result{Msg: made})
		}
	}
}

// 17.10: names are quoted where they must be.
func TestToldQuoted(t *testing.T) {
	list := files{"a b": put("x"), "\n": put("y")}
	c := api.Command{Op: 'q', Verbose: true, Archive: "lib \"a\"", Names: []string{"a b", "\n"}}
	v := durable(t, list)
	wantResult(t, "17.10: quoted", exec(v, c), api.Result{Out: "q - \"a b\"\nq - \"\\n\"\n", Msg: "ar: creating \"lib \\\"a\\\"\"\n"})
	c.Prog = 3
	c.Archive = ""
	wantResult(t, "17.10: quoted", exec(v, c), no("", api.ErrFileName))
}

// 17.10: the archive's Meta is of the environment, whatever it was; the members' is not.
func TestArchiveMeta(t *testing.T) {
	for _, e := range []api.Env{{}, {Now: 1, UID: 2, GID: 3}, {Now: -7, UID: -8, GID: -9}, {Now: 1 << 60, UID: 1 << 61, GID: 1 << 62}} {
		for _, line := range []string{"ar q lib.a x", "ar mSD lib.a", "ranlib -D lib.a", "ar rc new.a x"} {
			v := durable(t, abac())
			wantResult(t, line, tool.Run(v, args(line), e), api.Result{})
			archive := args(line)[2]
			want := api.Meta{Date: e.Now, UID: e.UID, GID: e.GID, Mode: 0o644}
			if got := look(t, v)[archive].meta; got != want {
				t.Errorf("17.10: %s leaves %v, want %v", line, got, want)
			}
		}
	}
}

// 17.10: Replace refused at each of its calls, by each kind of fault: told with the archive's name; nothing else is told.
func TestReplaceStruck(t *testing.T) {
	for _, op := range []string{"q", "r"} {
		names := append([]string{"new.a", "x", "x"}, replacing("new.a", 70)...)
		wantStruck(t, abac(), "ar "+op+" new.a x", names...)
		names = append([]string{"lib.a", "x", "x"}, replacing("lib.a", 400)...)
		wantStruck(t, abac(), "ar "+op+"v lib.a x", names...)
	}
	for _, line := range []string{"ar dv lib.a a", "ar mv lib.a a", "ar s lib.a", "ranlib lib.a", "ar mS lib.a"} {
		wantStruck(t, abac(), line, append([]string{"lib.a"}, replacing("lib.a", 300)...)...)
	}
	for k := 4; k <= 9; k++ {
		for _, kind := range kinds() {
			v := durable(t, abac())
			v.Arm([]api.Fault{{At: k, Kind: kind}})
			got := tool.Run(v, args("ar rv new.a x"), env)
			code := struck(kind)
			if k == 9 {
				code = api.ErrUnsure
			}
			wantResult(t, fmt.Sprintf("17.10: fault %d at call %d", kind, k), got, no("new.a", code))
		}
	}
}

// 17.10: what the volume itself refuses: no room for the new archive beside the old one, no room in the directory.
func TestReplaceRefused(t *testing.T) {
	list := files{"lib.a": put(gnu(member("a", filled(1000)))), "x": put(filled(500))}
	used := len(list["lib.a"].data) + 500
	whole := used + len(list["lib.a"].data) + 560
	for room, want := range map[int]api.Result{used: no("lib.a", api.ErrFull), used + 1100: no("lib.a", api.ErrFull), whole - 1: no("lib.a", api.ErrFull), whole: out("q - x")} {
		v := roomFor(t, room, list)
		wantResult(t, "17.10: room", tool.Run(v, args("ar qv lib.a x"), env), want)
		if want.Code != api.OK {
			wantFiles(t, "17.10: room", v, list)
		}
	}
	many := files{"lib.a": put(regular())}
	for i := range api.MaxFiles - 1 {
		many[fmt.Sprint("f", i)] = put("")
	}
	wantRun(t, many, "ar qv lib.a f0", no("lib.a", api.ErrMany), 6, many)
	wantRun(t, many, "ar qv new.a f0", no("new.a", api.ErrMany), 6, many)
	wantRun(t, many, "ranlib lib.a", refused("ranlib", "lib.a", api.ErrMany), 4, many)
}

// 17.10: a leftover of the tool's own file does no harm, and is gone.
func TestLeftover(t *testing.T) {
	list := abac().but(temp, put(filled(700)))
	for _, line := range []string{"ar q lib.a x", "ar d lib.a a", "ranlib lib.a", "ar s lib.a"} {
		v, w := durable(t, abac()), durable(t, list)
		wantResult(t, "17.10: "+line, tool.Run(w, args(line), env), tool.Run(v, args(line), env))
		wantFiles(t, "17.10: "+line, w, look(t, v))
	}
}
