package tool_test

import (
	"fmt"
	"testing"

	"shelf/api"
	"shelf/tool"
)

// indexed is a GNU archive of one member b.o that defines f, with its index of this date.
func indexed(m api.Meta, stamp int) string {
	return regular(part("/", api.Meta{Date: stamp}, narrow(entry{"f", 78})), part("b.o/", m, object("f")))
}

// three are three archives of b.o without an index: GNU, BSD and thin; and b.o.
func three() files {
	b := member("b.o", object("f"))
	return files{"g.a": put(gnu(b)), "b.a": put(bsd(b)), "t.a": put(thin(b)), "b.o": put(b.Data)}
}

// indexedThree are the same with their indexes.
func indexedThree(m api.Meta, stamp int) files {
	f := object("f")
	i := api.Meta{Date: stamp}
	return files{
		"g.a": made(indexed(m, stamp)),
		"b.a": made(regular(part("__.SYMDEF", i, symdef(entry{"f", 86})), part("b.o", m, f))),
		"t.a": made("!<thin>\n" + part("/", i, narrow(entry{"f", 144})) + part("//", api.Meta{}, "b.o/\n") + head("/0", m, len(f))),
		"b.o": put(f),
	}
}

// 17.4: each archive in order is made anew as by ar s.
func TestRanlib(t *testing.T) {
	wantRun(t, three(), "ranlib g.a b.a t.a", api.Result{}, 3+1+3*6, indexedThree(own, 100))
	wantRun(t, three(), "ranlib -D t.a g.a b.a", api.Result{}, 3+1+3*6, indexedThree(api.Meta{Mode: 0o644}, 0))
	wantRun(t, three(), "ranlib g.a", api.Result{}, 7, three().but("g.a", indexedThree(own, 100)["g.a"]))
	wantRun(t, three(), "ranlib g.a g.a", api.Result{}, 14, three().but("g.a", indexedThree(own, 100)["g.a"]))
	wantRun(t, three(), "ar s g.a", api.Result{}, 7, three().but("g.a", indexedThree(own, 100)["g.a"]))
	wantRun(t, three(), "ar sD t.a", api.Result{}, 8, three().but("t.a", indexedThree(api.Meta{Mode: 0o644}, 0)["t.a"]))
}

// 17.4: the calls, archive by archive.
func TestRanlibStruck(t *testing.T) {
	list := three()
	names := append([]string{"t.a", "b.o"}, replacing("t.a", 300)...)
	names = append(names, "g.a")
	names = append(names, replacing("g.a", 500)...)
	wantStruck(t, list, "ranlib t.a g.a", names...)
}

// 17.4: nothing of the command but Det, the archive and the names matters, its operation neither.
func TestRanlibFields(t *testing.T) {
	for i := range letters {
		for _, det := range []bool{false, true} {
			c := api.Command{
				Prog: api.Ranlib, Op: letters[i], Verbose: true, Update: true, Quiet: true, Det: det, Dates: true, Bare: true, Thin: true, Kind: api.BSD,
				Pos: api.Pos{Where: api.After, Anchor: "none"}, Archive: "g.a", Names: []string{"b.a", "t.a"},
			}
			want := indexedThree(own, 100)
			if det {
				want = indexedThree(api.Meta{Mode: 0o644}, 0)
			}
			wantExec(t, three(), c, api.Result{}, 3+1+3*6, want)
		}
	}
}

// 17.4: the first archive that is refused ends it; those ahead of it stay as they were made, those behind it as they were.
func TestRanlibRefused(t *testing.T) {
	list := three().but("bad.a", put("no archive")).but("lost.a", put(thin(member("gone", "x"))))
	for _, c := range []struct {
		bad, name string
		code      api.Errno
		calls     int
	}{
		{"none.a", "none.a", api.ErrMissing, 1},
		{"bad.a", "bad.a", api.ErrMagic, 1},
		{"lost.a", "gone", api.ErrLost, 2},
	} {
		want := refused("ranlib", c.name, c.code)
		wantRun(t, list, "ranlib "+c.bad+" g.a", want, c.calls, list)
		wantRun(t, list, "ranlib g.a "+c.bad+" b.a", want, 7+c.calls, list.but("g.a", indexedThree(own, 100)["g.a"]))
		wantRun(t, list, "ranlib g.a g.a "+c.bad+" none.a b.a", want, 14+c.calls, list.but("g.a", indexedThree(own, 100)["g.a"]))
	}
}

// 17.4: each struck call leaves the archives ahead made, this one and those behind as they were.
func TestRanlibFaults(t *testing.T) {
	list := three()
	news := indexedThree(own, 100)
	for k := 1; k <= 14; k++ {
		for _, kind := range []int{api.FaultIO, api.FaultShort} {
			f := durable(t, list)
			f.Arm([]api.Fault{{At: k, Kind: kind}})
			got := tool.Run(f, args("ranlib g.a b.a"), env)
			name, want := "g.a", list
			if k >= 7 {
				want = want.but("g.a", news["g.a"])
			}
			if k > 7 {
				name = "b.a"
			}
			if k == 14 {
				want = want.but("b.a", news["b.a"])
			}
			code := api.ErrIO
			if k%7 == 0 {
				code = api.ErrUnsure
			}
			what := fmt.Sprintf("17.4: fault %d at call %d", kind, k)
			wantResult(t, what, got, refused("ranlib", name, code))
			wantFiles(t, what, f, want)
		}
	}
}
