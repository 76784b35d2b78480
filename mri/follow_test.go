package mri_test

import (
	"fmt"
	"maps"
	"math"
	"testing"

	"shelf/api"
	"shelf/mri"
	"shelf/vfs"
)

// unsettled makes a volume on which nothing of these files is durable, neither names nor bytes: a SyncDir or a Sync would show behind a restart.
func unsettled(t *testing.T, list files) *vfs.FS {
	t.Helper()
	f := vfs.New(capacity)
	for name, x := range list {
		h, err := f.Create(name, x.meta)
		must(t, err)
		_, err = h.Write(x.data)
		must(t, err)
	}
	f.Arm(nil)
	return f
}

// looking are scripts without SAVE and EXTRACT that is carried out, and how many calls they make beside the reading of themselves: each is one ReadFile or Stat that the chapter names.
func looking() map[string]int {
	return map[string]int{
		"CREATE n": 0, "OPEN l.a": 1, "OPEN l.a / OPEN m.a": 2, "CREATE n / ADDMOD a b / LIST": 4, "OPEN l.a / REPLACE a x / CLEAR": 5, "CREATE n / ADDLIB l.a / ADDLIB m.a (b)": 2, "VERBOSE / OPEN l.a / DELETE a / LIST": 1, "DIRECTORY l.a": 1,
		"DIRECTORY t.a (gone)": 1, "OPEN t.a": 1, "OPEN l.a / ADDMOD a gone": 4, "OPEN gone": 1, "OPEN l.a / END / SAVE": 1, "OPEN l.a / DELETE z / SAVE": 1, "SAVE": 0, "EXTRACT a": 0, "OPEN l.a / EXTRACT z": 1, "FOO": 0, "END": 0, "OPEN l.a / CREATE n / CLEAR / VERBOSE": 1,
		"CREATE l.a / ADDMOD l.a s " + temp + "x": 5, "CREATE " + temp: 0, "CREATE n / ADDMOD a / ADDLIB t.a": 3, "OPEN l.a / ADDMOD late / SAVE": 3,
	}
}

// lookingFiles are the files for these scripts.
func lookingFiles(bars string) files {
	return abac().but("t.a", put(thin(member("gone", "x")))).but("late", file{"x", api.Meta{Date: -1}}).but(temp, put("left")).but("s", put(script(bars)))
}

// 19.18: no call but ReadFile and Stat: no file changes, and nothing that was pending or loose becomes durable, whatever strikes.
func TestLookingChangesNothing(t *testing.T) {
	for bars, calls := range looking() {
		list := lookingFiles(bars)
		f := durable(t, list)
		mri.Run(f, "s", env)
		wantCalls(t, "19.18: "+bars, f, calls+1)
		for k := range 7 {
			for _, kind := range kinds() {
				f := unsettled(t, list)
				f.Arm([]api.Fault{{At: k, Kind: kind}})
				got := mri.Run(f, "s", env)
				what := fmt.Sprintf("19.18: %s (%d), fault %d at call %d", bars, got.Code, kind, k)
				if !f.Down() {
					wantFiles(t, what, f, list)
				}
				f.Restart(math.MaxInt, nil)
				for name, x := range look(t, f) {
					if x.data != "" {
						t.Errorf("%s: %q became durable", what, name)
					}
				}
				f = unsettled(t, list)
				f.Arm([]api.Fault{{At: k, Kind: kind}})
				mri.Run(f, "s", env)
				f.Restart(0, nil)
				wantFiles(t, what+", behind a restart", f, nil)
			}
		}
	}
}

// plans are plans of no fault, of one and of two at the first calls.
func plans(calls int) [][]api.Fault {
	list := [][]api.Fault{nil}
	for at := 1; at <= calls; at++ {
		for _, kind := range kinds() {
			one := api.Fault{At: at, Kind: kind, N: 2}
			list = append(list, []api.Fault{one})
			for _, second := range kinds() {
				list = append(list, []api.Fault{one, {At: at + 1, Kind: second, N: 1}}, []api.Fault{one, {At: at + 2, Kind: second, N: 300}})
			}
		}
	}
	return list
}

// 19.18: no file changes but the archives of a SAVE, the files of members that EXTRACT unpacks, and the tool's own.
func TestOnlyNamedFilesChange(t *testing.T) {
	for bars, names := range map[string][]string{
		"OPEN l.a / ADDMOD x / SAVE / EXTRACT c / CREATE n / SAVE": {"l.a", "c", "n", temp}, "OPEN l.a / EXTRACT a b / DELETE a / SAVE": {"a", "b", "l.a", temp}, "OPEN l.a / EXTRACT a a c": {"a", "c"}, "CREATE n / ADDLIB l.a (b) / EXTRACT b": {"b"},
		"CREATE n / ADDLIB l.a / ADDLIB m.a / SAVE / OPEN m.a / CLEAR": {"n", temp},
	} {
		before := abac().but("s", put(script(bars))).but("z", put("zed"))
		for _, plan := range plans(25) {
			for _, restart := range []int{-1, 0, 2, 99} {
				f := durable(t, before)
				f.Arm(plan)
				mri.Run(f, "s", env)
				if f.Down() && restart < 0 {
					continue
				}
				if restart >= 0 {
					f.Restart(restart, []int{1, 700, 0})
				}
				left, want := look(t, f), maps.Clone(before)
				for _, name := range names {
					delete(left, name)
					delete(want, name)
				}
				if !maps.Equal(left, want) {
					t.Fatalf("19.18: %s, plan %v, restart %d: beside %q there is %v", bars, plan, restart, names, left)
				}
			}
		}
	}
}

// saving are scripts with one SAVE and no EXTRACT, and the archive that is saved.
func saving() map[string]string {
	return map[string]string{
		"OPEN l.a / DELETE a / SAVE": "l.a", "OPEN l.a / CLEAR / SAVE / LIST": "l.a", "VERBOSE / CREATE n / ADDMOD a b / SAVE": "n", "CREATE l.a / ADDLIB m.a / SAVE / ADDMOD x / CLEAR": "l.a", "OPEN m.a / REPLACE b x / SAVE / OPEN l.a / DELETE a": "m.a",
		"OPEN l.a / ADDLIB l.a / SAVE / END / SAVE": "l.a", "CREATE n / ADDMOD big / SAVE": "n", "CREATE n / SAVE / DELETE z": "n", "OPEN l.a / ADDMOD o / SAVE / DIRECTORY l.a (o)": "l.a",
	}
}

// savingFiles are the files for these scripts.
func savingFiles(bars string) files {
	return abac().but("big", put(filled(1100))).but("o", put(object("f"))).but("s", put(script(bars))).but(temp, put("left over"))
}

// newBytes is the archive that the script leaves when nothing fails.
func newBytes(t *testing.T, bars string) file {
	t.Helper()
	f := durable(t, savingFiles(bars))
	mri.Run(f, "s", env)
	return look(t, f)[saving()[bars]]
}

// 19.19: whatever is struck, and the power still on: all files but the tool's own are as they were, or just the archive is new.
func TestOldOrNew(t *testing.T) {
	for bars, archive := range saving() {
		fresh := newBytes(t, bars)
		before := savingFiles(bars).without(temp)
		for _, plan := range plans(16) {
			f := durable(t, savingFiles(bars))
			f.Arm(plan)
			got := mri.Run(f, "s", env)
			if f.Down() {
				continue
			}
			left := look(t, f).without(temp)
			isOld := got.Code != api.OK && maps.Equal(left, before)
			isNew := maps.Equal(left, before.but(archive, fresh))
			if !isOld && !isNew || got.Code == api.ErrUnsure && !isNew {
				t.Fatalf("19.19: %s (%d), plan %v: the files are %v", bars, got.Code, plan, left)
			}
		}
	}
}

// 19.19: behind a restart, whatever its choice: the archive is as before or new; new, if the script answered OK.
func TestBehindPowerCut(t *testing.T) {
	for bars, archive := range saving() {
		fresh := newBytes(t, bars)
		before := savingFiles(bars).without(temp)
		for _, plan := range plans(16) {
			for _, dirOps := range []int{0, 1, 2, 99} {
				f := durable(t, savingFiles(bars))
				f.Arm(plan)
				got := mri.Run(f, "s", env)
				f.Restart(dirOps, []int{dirOps, 0, 600})
				left := look(t, f).without(temp)
				isOld := got.Code != api.OK && maps.Equal(left, before)
				isNew := maps.Equal(left, before.but(archive, fresh))
				if !isOld && !isNew {
					t.Fatalf("19.19: %s (%d), plan %v, restart %d: the files are %v", bars, got.Code, plan, dirOps, left)
				}
			}
		}
	}
}

// 19.19: just one call struck: which code, and whether the archive is new behind a restart that keeps all.
func TestEachCallOfSaving(t *testing.T) {
	for bars, archive := range map[string]string{"OPEN l.a / DELETE a / SAVE": "l.a", "CREATE n / ADDMOD big o / SAVE": "n", "OPEN m.a / ADDLIB l.a (b) / REPLACE x / SAVE": "m.a"} {
		list := savingFiles(bars)
		f := durable(t, list)
		wantResult(t, bars, mri.Run(f, "s", env), told())
		calls := f.Calls()
		fresh := look(t, f)[archive]
		for k := 1; k <= calls; k++ {
			for _, kind := range kinds() {
				f := durable(t, list)
				f.Arm([]api.Fault{{At: k, Kind: kind, N: 1}})
				got := mri.Run(f, "s", env)
				code := struck(kind)
				if k == calls {
					code = api.ErrUnsure
				}
				if got.Code != code || got.Out != "" {
					t.Errorf("19.19: %s, fault %d at call %d of %d: %q, %d, want %d", bars, kind, k, calls, got.Out, got.Code, code)
				}
				f.Restart(99, []int{99})
				if left := look(t, f)[archive]; (left == fresh) != (k == calls) {
					t.Errorf("19.19: %s, fault %d at call %d of %d leaves %v", bars, kind, k, calls, left)
				}
			}
		}
	}
}
