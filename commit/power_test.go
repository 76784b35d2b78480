package commit_test

import (
	"errors"
	"fmt"
	"maps"
	"math"
	"testing"

	"shelf/api"
	"shelf/commit"
	"shelf/vfs"
)

// scene is a volume with durable files, and what is to be put there.
type scene struct {
	what       string
	capacity   int
	list       files
	name, data string
}

// scenes are with and without the file, a leftover, room for all of it.
func scenes() []scene {
	base := files{"a": old("old"), "b": old("other"), "z": old("")}
	left := base.but(temp, old("left over"))
	long := filled(api.Chunk + 5)
	return []scene{
		{"a file", 2000, base, "a", "fresh"},
		{"a file that is empty", 2000, base, "z", "fresh"},
		{"no bytes", 2000, base, "a", ""},
		{"two pieces", 2000, base, "a", long},
		{"a new file", 2000, base, "new", "fresh"},
		{"an empty volume", 2000, files{}, "new", "fresh"},
		{"a leftover", 2000, left, "a", "fresh"},
		{"a new file and a leftover", 2000, left, "new", "fresh"},
		{"two pieces and a leftover", 2000, left, "a", long},
		{"a leftover alone", 2000, files{temp: old("left over")}, "new", "fresh"},
		{"no room", 12, base, "a", "fresh"},
		{"room for one piece of two", 8 + api.Chunk, base, "a", long},
		{"no room for a leftover beside it", 17, left, "a", "fresh"},
	}
}

// plans are all plans of one fault or two at the first calls, the empty one too.
func plans(calls int) [][]api.Fault {
	out := [][]api.Fault{nil}
	for at := 1; at <= calls; at++ {
		for _, kind := range kinds() {
			one := api.Fault{At: at, Kind: kind, N: 2}
			out = append(out, []api.Fault{one})
			for next := at + 1; next <= calls; next++ {
				for _, second := range kinds() {
					out = append(out, []api.Fault{one, {At: next, Kind: second, N: 1}})
				}
			}
		}
	}
	return out
}

// play makes the scene's volume, hands it to set, and replaces the file under this plan.
func (s scene) play(t *testing.T, plan []api.Fault, set func(f *vfs.FS)) (*vfs.FS, error) {
	t.Helper()
	f := durable(t, s.capacity, s.list)
	if set != nil {
		set(f)
	}
	f.Arm(plan)
	err := commit.Replace(f, s.name, s.data, newMeta)
	return f, err
}

// unsure: did only the last call fail?
func unsure(err error) bool { return errors.Is(err, api.ErrUnsure) }

// 16.6: whatever the plan, with the power on behind it: all is as it was but for TempName, or just the one file is new and there is no TempName.
func TestPowerStaysOn(t *testing.T) {
	for _, s := range scenes() {
		for _, plan := range plans(8) {
			what := fmt.Sprint("16.6: ", s.what, ", plan ", plan)
			f, err := s.play(t, plan, nil)
			if f.Down() {
				continue
			}
			if err == nil || unsure(err) {
				wantFiles(t, what, f, s.list.without(temp).but(s.name, fresh(s.data)))
				continue
			}
			got := look(t, f)
			if !maps.Equal(got.without(temp), s.list.without(temp)) {
				t.Errorf("%s: the files are %v", what, got)
			}
		}
	}
}

// 16.6: it holds also of files whose bytes or names are not durable, the replaced one among them.
func TestPowerStaysOnNothingDurable(t *testing.T) {
	for _, name := range []string{"p", "q", "new"} {
		for _, plan := range plans(8) {
			what := fmt.Sprint("16.6: pending, ", name, ", plan ", plan)
			s := scene{"", 2000, files{"a": old("old")}, name, "fresh"}
			f, err := s.play(t, plan, func(f *vfs.FS) {
				put(t, f, "p", old("pending"))
				h, err := f.Create("q", oldMeta)
				must(t, err)
				_, err = h.Write("loose")
				must(t, err)
			})
			if f.Down() {
				continue
			}
			want := files{"a": old("old"), "p": old("pending"), "q": old("loose")}
			if err == nil || unsure(err) {
				wantFiles(t, what, f, want.but(name, fresh("fresh")))
				continue
			}
			if got := look(t, f); !maps.Equal(got.without(temp), want) {
				t.Errorf("%s: the files are %v", what, got)
			}
		}
	}
}

// choice is what a restart keeps.
type choice struct {
	dirOps int
	cuts   []int
}

// choices are choices of a restart, within and beyond their bounds.
func choices() []choice {
	var out []choice
	for _, dirOps := range []int{math.MinInt, -1, 0, 1, 2, 3, 4, math.MaxInt} {
		for _, cuts := range [][]int{nil, {0}, {1}, {3, 0, 2, 1}, {math.MaxInt}, {-1, 600}} {
			out = append(out, choice{dirOps, cuts})
		}
	}
	return out
}

// wantOldOrNew: behind the restart, is the file as it was or new, as told, and every other file but TempName as it was?
func wantOldOrNew(t *testing.T, what string, f *vfs.FS, s scene, mayBeOld, mayBeNew bool) {
	t.Helper()
	got := look(t, f).without(temp)
	before := s.list.without(temp)
	isOld := mayBeOld && maps.Equal(got, before)
	isNew := mayBeNew && maps.Equal(got, before.but(s.name, fresh(s.data)))
	if !isOld && !isNew {
		t.Errorf("%s: the files are %v", what, got)
	}
}

// 16.7: whatever the plan and whatever the restart keeps.
func TestBehindRestart(t *testing.T) {
	for _, s := range scenes() {
		for _, plan := range plans(8) {
			for _, c := range choices() {
				f, err := s.play(t, plan, nil)
				f.Restart(c.dirOps, c.cuts)
				what := fmt.Sprint("16.7: ", s.what, ", plan ", plan, ", restart ", c)
				wantOldOrNew(t, what, f, s, err != nil, err == nil || unsure(err))
				if t.Failed() {
					return
				}
			}
		}
	}
}

// 16.7: each call cut by the power: the old file ahead of the last call; at it the old one or the new one, by whether the Rename is kept.
func TestEachCallCut(t *testing.T) {
	for _, n := range lengths() {
		calls := len(expected(n))
		for _, list := range []files{{"a": old("old"), "b": old("other")}, {"b": old("other")}, {"a": old("old"), "b": old("other"), temp: old("left")}} {
			s := scene{"", 10000, list, "a", filled(n)}
			for k := 1; k <= calls+1; k++ {
				for _, c := range choices() {
					f, err := s.play(t, []api.Fault{{At: k, Kind: api.FaultDown}}, nil)
					f.Restart(c.dirOps, c.cuts)
					what := fmt.Sprintf("16.7: %d bytes, the power goes at call %d (%v), restart %v", n, k, err, c)
					renamed := k > calls || k == calls && c.dirOps >= 2 // pending: the Create and the Rename
					wantOldOrNew(t, what, f, s, !renamed, renamed)
				}
			}
		}
	}
}

// 16.7: what a power cut leaves of TempName is what was written there: loose ahead of Sync, all of it behind.
func TestTempBehindCut(t *testing.T) {
	for _, c := range []struct {
		k, dirOps, cut int
		left           string // "-": no such file
	}{
		{1, 9, 9, "-"}, {2, 9, 9, "-"}, {3, 0, 9, "-"}, {3, 1, 9, ""}, {4, 1, 0, ""}, {4, 1, 3, "fre"}, {4, 1, 9, "fresh"},
		{5, 0, 9, "-"}, {5, 1, 0, "fresh"}, {6, 0, 0, "-"}, {6, 1, 0, "fresh"}, {6, 2, 0, "-"}, {7, 0, 0, "-"}, {7, 9, 0, "-"},
	} {
		s := scene{"", 100, files{"a": old("old")}, "a", "fresh"}
		f, _ := s.play(t, []api.Fault{{At: c.k, Kind: api.FaultDown}}, nil)
		f.Restart(c.dirOps, []int{c.cut})
		got, there := look(t, f)[temp]
		if there != (c.left != "-") || there && got != fresh(c.left) {
			t.Errorf("the power goes at call %d, restart %d, %d: %v, %v, want %q", c.k, c.dirOps, c.cut, got, there, c.left)
		}
	}
}

// 16.7: behind a failure with the power on the old file outlasts a power cut, whatever is kept of the undoing.
func TestFailureThenCut(t *testing.T) {
	for k := 1; k <= 5; k++ {
		for _, removed := range []bool{false, true} {
			for _, c := range choices() {
				s := scene{"", 100, files{"a": old("old")}, "a", "fresh"}
				plan := []api.Fault{{At: k, Kind: api.FaultIO}}
				if !removed {
					plan = append(plan, api.Fault{At: k + 1, Kind: api.FaultIO})
				}
				f, err := s.play(t, plan, nil)
				f.Restart(c.dirOps, c.cuts)
				wantOldOrNew(t, fmt.Sprintf("16.7: %v, restart %v", err, c), f, s, true, false)
			}
		}
	}
}
