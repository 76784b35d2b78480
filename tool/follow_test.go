package tool_test

import (
	"fmt"
	"maps"
	"math"
	"strings"
	"testing"

	"shelf/api"
	"shelf/tool"
	"shelf/vfs"
)

// unsettled makes a volume on which nothing of these files is durable, neither names nor bytes: a SyncDir or a Sync would show behind a restart.
func unsettled(t *testing.T, list files) *vfs.FS {
	t.Helper()
	f := vfs.New(capacity)
	for name, x := range list {
		h, err := f.Create(name, x.meta)
		must(t, err)
		_, err = h.Write(x.data)
		must(t, err)
	}
	f.Arm(nil)
	return f
}

// looking are lines that only look, or that are refused ahead of the file.
func looking() []string {
	return []string{
		"ar t lib.a", "ar tv lib.a a z", "ar p lib.a", "ar pv lib.a b", "ar p t.a a", "ar p t.a", "ar tv t.a", "ar t none.a", "ar p none.a", "ar x none.a", "ar x t.a",
		"ar d lib.a z", "ar d none.a", "ar m lib.a z", "ar ma z lib.a a", "ar ra z lib.a a", "ar r lib.a a z", "ar rc new.a z", "ar rcT new.a a z", "ar rT lib.a a", "ar qT lib.a a",
		"ar q t.a a", "ar s t.a", "ar s none.a", "ar s a", "ar m t.a", "ranlib t.a", "ranlib none.a lib.a", "ranlib a", "ar r " + temp + " a", "ar r lib.a " + temp, "ar r lib.a late", "ar qc new.a late a",
		"ar x lib.a z", "ar x empty.a", "ar rx lib.a", "ar", "ranlib", "ar t @bad", "ar t lib.a @words",
	}
}

// lookingFiles are the files for these lines.
func lookingFiles() files {
	return abac().but("t.a", put(thin(sized("a", 5), sized("gone", 1)))).but("late", file{"x", api.Meta{Date: -1}}).but("bad", put("\"")).
		but("words", put("a b")).but("empty.a", put(regular())).but(temp, put("left"))
}

// 17.15: no call but ReadFile and Stat: no file changes, and nothing that was pending or loose becomes durable, whatever strikes.
func TestLookingChangesNothing(t *testing.T) {
	for _, line := range looking() {
		for k := range 8 {
			for _, kind := range kinds() {
				f := unsettled(t, lookingFiles())
				f.Arm([]api.Fault{{At: k, Kind: kind}})
				got := tool.Run(f, args(line), env)
				what := fmt.Sprintf("17.15: %s (%d), fault %d at call %d", line, got.Code, kind, k)
				if !f.Down() {
					wantFiles(t, what, f, lookingFiles())
				}
				f.Restart(math.MaxInt, nil)
				for name, x := range look(t, f) {
					if x.data != "" {
						t.Errorf("%s: %q became durable", what, name)
					}
				}
				f = unsettled(t, lookingFiles())
				f.Arm([]api.Fault{{At: k, Kind: kind}})
				tool.Run(f, args(line), env)
				f.Restart(0, nil)
				wantFiles(t, what+", behind a restart", f, nil)
			}
		}
	}
}

// 17.15: x changes no file but those of members' names, and never the archive; a file that it leaves half-way has a beginning of a member's data.
func TestUnpackChangesNoOther(t *testing.T) {
	members := []api.Member{member("a", filled(600)), member("b", "two"), member("a", "three"), member("lib.a", "four"), member("c", "five")}
	list := files{"lib.a": put(gnu(members...)), "a": put("old a"), "x": put("ex"), temp: put("left")}
	for _, line := range []string{"ar x lib.a", "ar x lib.a a b c", "ar xov lib.a c a a", "ar x lib.a b lib.a"} {
		for _, plan := range plans(15) {
			for _, restart := range []int{-1, 0, 1, 3, 99} {
				f := durable(t, list)
				f.Arm(plan)
				got := tool.Run(f, args(line), env)
				if restart < 0 && f.Down() {
					continue
				}
				if restart >= 0 {
					f.Restart(restart, []int{1, 700, 0})
				}
				what := fmt.Sprintf("17.15: %s (%d), plan %v, restart %d", line, got.Code, plan, restart)
				wantOnlyMembers(t, what, look(t, f), list, members)
				if t.Failed() {
					return
				}
			}
		}
	}
}

// wantOnlyMembers: is each file as before, or has it a beginning of the data of a member of its name, not the archive's?
func wantOnlyMembers(t *testing.T, what string, got, before files, members []api.Member) {
	t.Helper()
	for name, x := range got {
		ok := x == before[name]
		for _, m := range members {
			ok = ok || m.Name == name && name != "lib.a" && strings.HasPrefix(m.Data, x.data)
		}
		if !ok {
			t.Errorf("%s: %q is %q", what, name, x.data)
		}
	}
	for name := range before {
		if _, ok := got[name]; !ok {
			t.Errorf("%s: %q is gone", what, name)
		}
	}
}

// plans are plans of no fault, of one and of two at the first calls.
func plans(calls int) [][]api.Fault {
	list := [][]api.Fault{nil}
	for at := 1; at <= calls; at++ {
		for _, kind := range kinds() {
			one := api.Fault{At: at, Kind: kind, N: 2}
			list = append(list, []api.Fault{one})
			for _, second := range kinds() {
				list = append(list, []api.Fault{one, {At: at + 1, Kind: second, N: 1}}, []api.Fault{one, {At: at + 2, Kind: second, N: 300}})
			}
		}
	}
	return list
}

// changing are lines that change an archive, or make it.
func changing() []string {
	return []string{
		"ar d lib.a a", "ar dv lib.a a b", "ar d lib.a", "ar m lib.a a", "ar mbS a lib.a c", "ar q lib.a x y", "ar qS lib.a o", "ar r lib.a a x", "ar ruv lib.a a b", "ar rD lib.a o", "ar s lib.a", "ranlib -D lib.a",
		"ar rc new.a a x", "ar q new.a o", "ar --format=bsd r new.a o x", "ar rcT new.a o x", "ar qT t.a x", "ar rT t.a o", "ar d t.a b", "ar m t.a o", "ar s t.a", "ranlib t.a", "ar mS t.a o",
	}
}

// changingFiles are the files for these lines.
func changingFiles() files {
	o := object("f", "g")
	return abac().but("o", put(o)).but("t.a", put(thin(member("o", o), sized("b", 5)))).but(temp, put("left over"))
}

// archiveOf is the archive that a line of changing names.
func archiveOf(line string) string {
	for _, word := range args(line) {
		if strings.HasSuffix(word, ".a") {
			return word
		}
	}
	return ""
}

// newBytes is the archive that the line leaves when nothing fails.
func newBytes(t *testing.T, line string) file {
	t.Helper()
	f := durable(t, changingFiles())
	if r := tool.Run(f, args(line), env); r.Code != api.OK {
		t.Fatalf("%s: %q", line, r.Msg)
	}
	return look(t, f)[archiveOf(line)]
}

// 17.16: whatever is struck, and the power still on: refused, all files but the tool's own are as they were; with ErrUnsure and OK just the archive is new.
func TestOldOrNew(t *testing.T) {
	for _, line := range changing() {
		fresh := newBytes(t, line)
		before := changingFiles().without(temp)
		for _, plan := range plans(18) {
			f := durable(t, changingFiles())
			f.Arm(plan)
			got := tool.Run(f, args(line), env)
			if f.Down() {
				continue
			}
			want := before
			if got.Code == api.OK || got.Code == api.ErrUnsure {
				want = before.but(archiveOf(line), fresh)
			}
			what := fmt.Sprintf("17.16: %s (%d), plan %v", line, got.Code, plan)
			if left := look(t, f); !maps.Equal(left.without(temp), want) {
				t.Errorf("%s: the files are %v", what, left)
			}
		}
	}
}

// 17.16: behind a power cut, whatever the restart keeps: OK lasts, a refusal leaves the old archive, ErrUnsure or the cut itself the old or the new one.
func TestBehindPowerCut(t *testing.T) {
	for _, line := range changing() {
		fresh := newBytes(t, line)
		before := changingFiles().without(temp)
		for _, plan := range plans(18) {
			for _, dirOps := range []int{0, 1, 2, 99} {
				f := durable(t, changingFiles())
				f.Arm(plan)
				got := tool.Run(f, args(line), env)
				f.Restart(dirOps, []int{dirOps, 0, 600})
				left := look(t, f).without(temp)
				isOld := got.Code != api.OK && maps.Equal(left, before)
				isNew := (got.Code == api.OK || got.Code == api.ErrUnsure) && maps.Equal(left, before.but(archiveOf(line), fresh))
				if !isOld && !isNew {
					t.Fatalf("17.16: %s (%d), plan %v, restart %d: the files are %v", line, got.Code, plan, dirOps, left)
				}
			}
		}
	}
}

// 17.16: just one call struck: which code, and whether the archive is new.
func TestEachCallOfChanges(t *testing.T) {
	for _, line := range changing() {
		fresh := newBytes(t, line)
		f := durable(t, changingFiles())
		tool.Run(f, args(line), env)
		calls := f.Calls()
		for k := 1; k <= calls; k++ {
			for _, kind := range kinds() {
				f := durable(t, changingFiles())
				f.Arm([]api.Fault{{At: k, Kind: kind, N: 1}})
				got := tool.Run(f, args(line), env)
				code, keeps := struck(kind), false
				if k == calls {
					code, keeps = api.ErrUnsure, true
				}
				if got.Code != code || got.Out != "" {
					t.Errorf("17.16: %s, fault %d at call %d of %d: %q, %d, want %d", line, kind, k, calls, got.Out, got.Code, code)
				}
				f.Restart(99, []int{99})
				if left := look(t, f)[archiveOf(line)]; (left == fresh) != keeps {
					t.Errorf("17.16: %s, fault %d at call %d of %d leaves %v", line, kind, k, calls, left)
				}
			}
		}
	}
}
