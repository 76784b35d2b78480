package tool_test

import (
	"fmt"
	"math"
	"strings"
	"testing"

	"shelf/api"
	"shelf/tool"
)

// unpacked is a file as x leaves it.
func unpacked(data string, mode int) file {
	return file{data, api.Meta{Date: 100, UID: 7, GID: 8, Mode: mode}}
}

// 17.13, 17.11, 17.14: all members, or those that are named; the last of a name is what is left of it.
func TestUnpack(t *testing.T) {
	for _, c := range []struct {
		names string
		want  api.Result
		calls int
		left  files
	}{
		{"", out("x - a", "x - b", "x - a", "x - c"), 1 + 4*3 + 1, abac().but("a", unpacked("3", 0o640)).but("b", unpacked("2", 0o640)).but("c", unpacked("4", 0o640))},
		{"c", out("x - c"), 5, abac().but("c", unpacked("4", 0o640))},
		{"c a", out("x - c", "x - a"), 8, abac().but("c", unpacked("4", 0o640)).but("a", unpacked("1", 0o640))},
		{"a a", out("x - a", "x - a"), 8, abac().but("a", unpacked("3", 0o640))},
		{"z c z", missing("x - c\n", "z", "z"), 5, abac().but("c", unpacked("4", 0o640))},
		{"z", missing("", "z"), 1, abac()},
		{"a a a", missing("x - a\nx - a\n", "a"), 8, abac().but("a", unpacked("3", 0o640))},
	} {
		wantRun(t, abac(), "ar xv lib.a "+c.names, c.want, c.calls, c.left)
		quiet := c.want
		quiet.Out = ""
		wantRun(t, abac(), "ar x lib.a "+c.names, quiet, c.calls, c.left)
	}
	list := files{"e.a": put(regular())}
	wantRun(t, list, "ar xv e.a", api.Result{}, 1, list)
}

// 17.13: a file's date is the clock's, or with o the member's; user and group are the environment's, the mode the member's.
func TestUnpackMeta(t *testing.T) {
	m := api.Meta{Date: 77, UID: 10, GID: 20, Mode: 0o100751}
	for _, data := range []string{regular(part("a/", m, "hello")), regular(part("a", m, "hello"))} {
		list := files{"lib.a": put(data)}
		wantRun(t, list, "ar x lib.a", api.Result{}, 5, list.but("a", file{"hello", api.Meta{Date: 100, UID: 7, GID: 8, Mode: 0o100751}}))
		wantRun(t, list, "ar xo lib.a", api.Result{}, 5, list.but("a", file{"hello", api.Meta{Date: 77, UID: 7, GID: 8, Mode: 0o100751}}))
		wantRun(t, list, "ar xoD lib.a", api.Result{}, 5, list.but("a", file{"hello", api.Meta{Date: 77, UID: 7, GID: 8, Mode: 0o100751}}))
		f := durable(t, list)
		wantResult(t, "17.13", tool.Run(f, args("ar x lib.a"), api.Env{Now: -1, UID: -2, GID: -3, Wide: -4}), api.Result{})
		wantFiles(t, "17.13", f, list.but("a", file{"hello", api.Meta{Date: -1, UID: -2, GID: -3, Mode: 0o100751}}))
	}
}

// 17.13: the archive and the tool's own file are never unpacked over, whatever the names and the place in the list; what was done ahead stays, and is told.
func TestUnpackReserved(t *testing.T) {
	list := files{"lib.a": put(gnu(member("a", "1"), member("lib.a", "2"), member("b", "3"), member(temp, "4"))), temp: put("left"), "b": put("old")}
	for _, c := range []struct {
		names, name string
		done        []string
	}{
		{"", "lib.a", []string{"a"}}, {"lib.a", "lib.a", nil}, {temp, temp, nil}, {"b a " + temp + " lib.a", temp, []string{"b", "a"}},
		{"z lib.a z", "lib.a", nil}, {"a z lib.a", "lib.a", []string{"a"}},
	} {
		want := no(c.name, api.ErrReserved)
		left := list
		for _, name := range c.done {
			want.Out += "x - " + name + "\n"
			left = left.but(name, unpacked(map[string]string{"a": "1", "b": "3"}[name], 0o640))
		}
		wantRun(t, list, "ar xv lib.a "+c.names, want, 1+3*len(c.done), left)
		want.Out = ""
		wantRun(t, list, "ar x lib.a "+c.names, want, 1+3*len(c.done), left)
	}
	// The same archive under another name holds no name of its own.
	list = files{"other": list["lib.a"]}
	wantRun(t, list, "ar xv other a lib.a", out("x - a", "x - lib.a"), 8, list.but("a", unpacked("1", 0o640)).but("lib.a", unpacked("2", 0o640)))
}

// 17.13: data are written in pieces of Chunk bytes: a Write that writes all and fails shows how far its piece goes, one that writes nothing where it begins.
func TestUnpackPieces(t *testing.T) {
	const c = api.Chunk
	for _, n := range []int{0, 1, c - 1, c, c + 1, 2 * c, 3*c + 5} {
		data := filled(n)
		list := files{"lib.a": put(gnu(member("a", data), member("b", "2")))}
		pieces := (n + c - 1) / c
		wantRun(t, list, "ar xv lib.a a", out("x - a"), 4+pieces, list.but("a", unpacked(data, 0o640)))
		for at := 0; at < n; at += c {
			k := 3 + at/c
			for _, short := range []struct{ n, left int }{{0, at}, {1, at + 1}, {-1, at}, {math.MaxInt, min(n, at+c)}} {
				what := fmt.Sprintf("17.13: %d bytes, the Write from %d on, %d of it", n, at, short.n)
				f := durable(t, list)
				f.Arm([]api.Fault{{At: k, Kind: api.FaultShort, N: short.n}})
				wantResult(t, what, tool.Run(f, args("ar xv lib.a"), env), no("a", api.ErrIO))
				wantCalls(t, what, f, k)
				wantFiles(t, what, f, list.but("a", unpacked(data[:short.left], 0o640)))
			}
		}
	}
}

// 17.13: each call refused, by each kind of fault: with the member's name, SyncDir with the archive's; no call behind it; what was done ahead is told.
func TestUnpackStruck(t *testing.T) {
	list := files{"lib.a": put(gnu(member("a", filled(513)), member("e", ""), member("b", "2")))}
	names := []string{"lib.a", "a", "a", "a", "a", "e", "e", "b", "b", "b", "lib.a"}
	done := []int{0, 0, 0, 0, 0, 1, 1, 2, 2, 2, 3}
	wantStruck(t, list, "ar x lib.a", names...)
	for k := range names {
		for _, kind := range kinds() {
			for _, line := range []string{"ar xv lib.a", "ar xv lib.a z a e b"} {
				f := durable(t, list)
				f.Arm([]api.Fault{{At: k + 1, Kind: kind}})
				want := no(names[k], struck(kind))
				want.Out = strings.Join([]string{"x - a\n", "x - e\n", "x - b\n"}[:done[k]], "")
				what := fmt.Sprintf("17.13: %s, fault %d at call %d", line, kind, k+1)
				wantResult(t, what, tool.Run(f, args(line), env), want)
				wantCalls(t, what, f, k+1)
			}
		}
	}
}

// 17.13: what the volume itself refuses: a name that is none, no room for data, no room in the directory.
func TestUnpackRefused(t *testing.T) {
	long := strings.Repeat("n", 65)
	list := files{"lib.a": put("")}
	list["lib.a"] = put(regular(part("//", api.Meta{}, long+"/\n"), part("a/", own, "1"), part("/0", own, "2"), part("b/", own, "3")))
	want := no(long, api.ErrFileName)
	want.Out = "x - a\n"
	wantRun(t, list, "ar xv lib.a", want, 5, list.but("a", unpacked("1", 0o640)))
	list = files{"lib.a": put(gnu(member("a", "1"), member("b", filled(1000)), member("c", "3"))), "b": put("old")}
	f := roomFor(t, len(list["lib.a"].data)+3+1+600, list)
	want = no("b", api.ErrFull)
	want.Out = "x - a\n"
	wantResult(t, "17.13: no room", tool.Run(f, args("ar xv lib.a"), env), want)
	wantCalls(t, "17.13: no room", f, 1+3+3)
	wantFiles(t, "17.13: no room", f, list.but("a", unpacked("1", 0o640)).but("b", unpacked(filled(512), 0o640)))
	for i := range api.MaxFiles - 3 {
		list[fmt.Sprint("f", i)] = put("")
	}
	want = no("c", api.ErrMany)
	want.Out = "x - a\nx - b\n"
	wantRun(t, list, "ar xv lib.a", want, 1+3+4+1, list.but("a", unpacked("1", 0o640)).but("b", unpacked(filled(1000), 0o640)))
}

// 17.13: a member stays done behind a restart only with its bytes and its name durable: Sync for the one, SyncDir for the other.
func TestUnpackDurable(t *testing.T) {
	list := files{"lib.a": put(gnu(member("a", "one"), member("b", "two"))), "a": put("old")}
	for k := 1; k <= 9; k++ {
		f := durable(t, list)
		f.Arm([]api.Fault{{At: k, Kind: api.FaultDown}})
		tool.Run(f, args("ar x lib.a"), env)
		f.Restart(math.MaxInt, []int{0})
		want := list
		switch {
		case k >= 8:
			want = want.but("a", unpacked("one", 0o640)).but("b", unpacked("two", 0o640))
		case k >= 6:
			want = want.but("a", unpacked("one", 0o640)).but("b", unpacked("", 0o640))
		case k >= 5:
			want = want.but("a", unpacked("one", 0o640))
		case k >= 3:
			want = want.but("a", unpacked("", 0o640))
		}
		wantFiles(t, fmt.Sprintf("17.13: the power goes at call %d, all names kept", k), f, want)
		f = durable(t, list)
		f.Arm([]api.Fault{{At: k, Kind: api.FaultDown}})
		tool.Run(f, args("ar x lib.a"), env)
		f.Restart(0, []int{9})
		if k < 9 {
			want = list
		}
		wantFiles(t, fmt.Sprintf("17.13: the power goes at call %d, no name kept", k), f, want)
	}
}
