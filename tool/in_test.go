package tool_test

import (
	"fmt"
	"strings"
	"testing"

	"shelf/api"
	"shelf/tool"
)

// 17.6: a member has its file's Meta, name and bytes, and their number.
func TestWhatGoesIn(t *testing.T) {
	meta := api.Meta{Date: 999999999999, UID: 999999, GID: 12, Mode: 0o100755}
	list := files{"a.o": {"hello", meta}, "e": {"", own}, "all": put(filled(1025))}
	want := regular(part("a.o/", meta, "hello"), part("e/", own, ""), part("all/", own, filled(1025)))
	for _, op := range []string{"r", "q"} {
		wantRun(t, list, "ar "+op+"c lib.a a.o e all", api.Result{}, 1+6+5+3, list.but("lib.a", made(want)))
		wantRun(t, list, "ar "+op+"c lib.a", api.Result{}, 1+6, list.but("lib.a", made(regular())))
	}
}

// 17.6: the calls, two for each name in order, one that is given twice read twice; each of them struck.
func TestInStruck(t *testing.T) {
	list := files{"a.o": put("hello"), "b.o": put("hi")}
	names := append([]string{"lib.a", "a.o", "a.o", "b.o", "b.o", "a.o", "a.o"}, replacing("lib.a", 100)...)
	for _, line := range []string{"ar rc lib.a a.o b.o a.o", "ar qc lib.a a.o b.o a.o", "ar r lib.a a.o b.o a.o", "ar rcT lib.a a.o b.o a.o", "ar qcS lib.a a.o b.o a.o"} {
		wantStruck(t, list, line, names...)
	}
	wantStruck(t, list.but("lib.a", put(gnu(member("c.o", "see")))), "ar qv lib.a a.o b.o a.o", names...)
}

// 17.6: a file that is missing is told by Stat; what stands ahead of it has been read, nothing behind it is.
func TestInMissing(t *testing.T) {
	list := files{"a.o": put("hello"), "b.o": put("hi")}
	for _, op := range []string{"r", "q"} {
		for _, c := range []struct {
			names string
			calls int
		}{
			{"x", 2}, {"x a.o", 2}, {"a.o x b.o", 4}, {"a.o b.o x y", 6},
		} {
			wantRun(t, list, "ar "+op+" lib.a "+c.names, no("x", api.ErrMissing), c.calls, list)
			wantRun(t, list, "ar "+op+"cvT lib.a "+c.names, no("x", api.ErrMissing), c.calls, list)
		}
	}
}

// 17.6: the archive itself can go in, with the bytes from before; of a new one there is no file yet.
func TestItselfIn(t *testing.T) {
	a := member("a.o", "hello")
	old := gnu(a)
	list := files{"lib.a": put(old)}
	wantRun(t, list, "ar r lib.a lib.a", api.Result{}, 9, files{"lib.a": made(gnu(a, member("lib.a", old)))})
	wantRun(t, list, "ar rc new.a new.a", no("new.a", api.ErrMissing), 2, list)
}

// 17.6: with the power gone at each call nothing is told but that call.
func TestInThenNothing(t *testing.T) {
	for _, op := range []string{"r", "q"} {
		for k := 2; k <= 5; k++ {
			for _, kind := range kinds() {
				list := files{"a.o": put("hello"), "b.o": put("hi")}
				f := durable(t, list)
				f.Arm([]api.Fault{{At: k, Kind: kind}})
				what := fmt.Sprintf("17.6: %s, fault %d at call %d", op, kind, k)
				name := strings.Fields("a.o a.o b.o b.o")[k-2]
				wantResult(t, what, tool.Run(f, []string{"ar", op + "v", "lib.a", "a.o", "b.o"}, env), no(name, struck(kind)))
				wantCalls(t, what, f, k)
				f.Restart(0, nil)
				wantFiles(t, what, f, list)
			}
		}
	}
}
