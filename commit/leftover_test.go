package commit_test

import (
	"fmt"
	"maps"
	"testing"

	"shelf/api"
	"shelf/commit"
	"shelf/vfs"
)

// leftovers are files TempName that an earlier Replace may have left, and greater ones.
func leftovers() []file {
	return []file{old(""), old("l"), old("left"), old(filled(api.Chunk)), old(filled(3*api.Chunk + 1))}
}

// words are an error's type and words, so that two of them can be held against each other.
func words(err error) string { return fmt.Sprintf("%T %v", err, err) }

// 16.8: whatever the plan and whatever room there is, the answer is that of the same call without the leftover, after as many calls, and the other files are the same.
func TestLeftoverDoesNoHarm(t *testing.T) {
	for _, n := range []int{0, 5, api.Chunk + 1} {
		for _, room := range []int{n - 1, n, n + 2000} {
			for _, plan := range plans(8) {
				base := files{"a": old("old")}
				clean := durable(t, 3+max(room, 0), base)
				clean.Arm(plan)
				want := commit.Replace(clean, "a", filled(n), newMeta)
				calls, down := clean.Calls(), clean.Down()
				clean.Restart(9, []int{9999})
				for _, left := range leftovers() {
					what := fmt.Sprintf("16.8: %d bytes, room for %d, plan %v, %d left over", n, room, plan, len(left.data))
					f := withLeftover(t, 3+max(room, 0), base, left)
					f.Arm(plan)
					if err := commit.Replace(f, "a", filled(n), newMeta); words(err) != words(want) {
						t.Errorf("%s: %v, want %v", what, err, want)
					}
					wantCalls(t, what, f, calls)
					wantDown(t, what, f, down)
					f.Restart(9, []int{9999})
					if got := look(t, f); !maps.Equal(got.without(temp), look(t, clean).without(temp)) {
						t.Errorf("%s: the files are %v", what, got)
					}
				}
			}
		}
	}
}

// withLeftover makes a volume with these files and a leftover, durable, of which only the room is taken that there is.
func withLeftover(t *testing.T, capacity int, list files, left file) *vfs.FS {
	t.Helper()
	used := 0
	for _, x := range list {
		used += len(x.data)
	}
	left.data = left.data[:min(len(left.data), capacity-used)]
	return durable(t, capacity, list.but(temp, left))
}

// 16.8: a leftover that fills the volume is given up by Create: its bytes are room.
func TestLeftoverFillsVolume(t *testing.T) {
	for _, room := range []int{1, 9, api.Chunk, 2*api.Chunk + 3} {
		list := files{"a": old("old"), temp: old(filled(room))}
		f := durable(t, 3+room, list)
		wantErr(t, "16.8", commit.Replace(f, "a", filled(room+1), newMeta), "write", temp, api.ErrFull)
		wantFiles(t, "16.8: a byte too much", f, list.without(temp))
		f = durable(t, 3+room, list)
		wantErr(t, "16.8", commit.Replace(f, "a", filled(room), newMeta), "", "", api.OK)
		wantFiles(t, "16.8: just room", f, files{"a": fresh(filled(room))})
		f.Restart(0, nil)
		wantFiles(t, "16.8: behind a restart", f, files{"a": fresh(filled(room))})
	}
}

// 16.8: in a full directory the leftover's name is the one that is needed.
func TestLeftoverInFullDirectory(t *testing.T) {
	list := files{temp: old("left")}
	for i := range api.MaxFiles - 1 {
		list[fmt.Sprint("f", i)] = old("")
	}
	for _, name := range []string{"f0", "new"} {
		f := durable(t, 100, list)
		wantErr(t, "16.8", commit.Replace(f, name, "new", newMeta), "", "", api.OK)
		wantCalls(t, "16.8", f, 6)
		wantFiles(t, "16.8", f, list.without(temp).but(name, fresh("new")))
	}
}

// 16.8: a leftover whose name is pending and whose bytes are loose, and which somebody still holds open.
func TestLeftoverStillOpen(t *testing.T) {
	f := durable(t, 10, files{"a": old("old")})
	h, err := f.Create(temp, oldMeta)
	must(t, err)
	_, err = h.Write("1234567")
	must(t, err)
	f.Arm(nil)
	wantErr(t, "16.8", commit.Replace(f, "a", "abcdefg", newMeta), "", "", api.OK)
	wantCalls(t, "16.8", f, 6)
	if _, err = h.Write("x"); err == nil {
		t.Error("the leftover's handle writes into the new file")
	}
	wantFiles(t, "16.8", f, files{"a": fresh("abcdefg")})
}

// 16.8: one Replace behind another one's power cut, and so on, at every call: the last one that answers nil is what is there.
func TestAgainAndAgain(t *testing.T) {
	for k := 1; k <= 7; k++ {
		for dirOps := range 4 {
			f := durable(t, 20, files{"a": old("old")})
			for range 3 {
				f.Arm([]api.Fault{{At: k, Kind: api.FaultDown}})
				commit.Replace(f, "a", "fresh", newMeta)
				f.Restart(dirOps, []int{dirOps})
			}
			wantErr(t, "16.8", commit.Replace(f, "a", "next", oldMeta), "", "", api.OK)
			wantFiles(t, fmt.Sprintf("16.8: the power went at call %d, restart %d", k, dirOps), f, files{"a": old("next")})
		}
	}
}
