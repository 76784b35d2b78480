package commit_test

import (
	"fmt"
	"math"
	"testing"

	"shelf/api"
	"shelf/commit"
)

// call is a counted call of a Replace, as its error tells it.
type call struct{ op, name string }

// lengths are lengths of data: none, less than a piece, one, a byte more, several.
func lengths() []int {
	const c = api.Chunk
	return []int{0, 1, 2, c - 1, c, c + 1, 2*c - 1, 2 * c, 2*c + 1, 3 * c, 5*c + 7}
}

// expected are the calls of 16.3 for n bytes, the last SyncDir among them.
func expected(n int) []call {
	list := []call{{"syncdir", ""}, {"create", temp}}
	for at := 0; at < n; at += api.Chunk {
		list = append(list, call{"write", temp})
	}
	return append(list, call{"sync", temp}, call{"rename", temp}, call{"syncdir", ""})
}

// wantStruck: is the error that of the call of number k, struck by a fault of this kind?
func wantStruck(t *testing.T, what string, err error, list []call, k, kind int) {
	t.Helper()
	switch {
	case k > len(list):
		wantErr(t, what, err, "", "", api.OK)
	case k == len(list):
		wantErr(t, what, err, "replace", "a", api.ErrUnsure)
	default:
		wantErr(t, what, err, list[k-1].op, list[k-1].name, struck(kind))
	}
}

// undone: is Remove called behind the call of number k that failed?
func undone(list []call, k int) bool { return k > 1 && k < len(list) }

// 16.3, 16.4, 16.5: each call struck by itself by each kind of fault tells what call it was; the count tells that there was no other but Remove.
func TestEachCallStruck(t *testing.T) {
	for _, n := range lengths() {
		list := expected(n)
		for k := 1; k <= len(list)+1; k++ {
			for _, kind := range kinds() {
				what := fmt.Sprintf("%d bytes, fault %d at call %d", n, kind, k)
				f := durable(t, 10000, files{"a": old("old")})
				f.Arm([]api.Fault{{At: k, Kind: kind}})
				wantStruck(t, what, commit.Replace(f, "a", filled(n), newMeta), list, k, kind)
				calls := min(k, len(list))
				if undone(list, k) && kind != api.FaultDown { // with the power off it is not counted
					calls++
				}
				wantCalls(t, what, f, calls)
				wantDown(t, what, f, kind == api.FaultDown && k <= len(list))
			}
		}
	}
}

// 16.3: data is cut from its beginning into pieces of Chunk bytes: a Write that writes all and fails shows how far its piece goes, one that writes nothing where it begins.
func TestPieces(t *testing.T) {
	for _, n := range lengths() {
		data := filled(n)
		for at := 0; at < n; at += api.Chunk {
			k := 3 + at/api.Chunk
			for _, c := range []struct{ n, left int }{{0, at}, {1, at + 1}, {math.MaxInt, min(n, at+api.Chunk)}} {
				what := fmt.Sprintf("%d bytes, the Write from %d on, %d of it written", n, at, c.n)
				f := durable(t, 10000, files{"a": old("old")})
				f.Arm([]api.Fault{{At: k, Kind: api.FaultShort, N: c.n}, {At: k + 1, Kind: api.FaultIO}})
				wantErr(t, what, commit.Replace(f, "a", data, newMeta), "write", temp, api.ErrIO)
				wantCalls(t, what, f, k+1)
				wantFiles(t, what, f, files{"a": old("old"), temp: fresh(data[:c.left])})
			}
		}
	}
}

// 16.3, 16.4: nothing fails: five calls and one a piece.
func TestNothingFails(t *testing.T) {
	for _, n := range lengths() {
		for _, name := range []string{"a", "new"} {
			what := fmt.Sprintf("%d bytes to %s", n, name)
			f := durable(t, 10000, files{"a": old("old"), "b": old("other")})
			wantErr(t, what, commit.Replace(f, name, filled(n), newMeta), "", "", api.OK)
			wantCalls(t, what, f, 5+(n+api.Chunk-1)/api.Chunk)
			want := files{"a": old("old"), "b": old("other")}.but(name, fresh(filled(n)))
			wantFiles(t, what, f, want)
			f.Restart(0, nil)
			wantFiles(t, what+", behind a restart", f, want)
		}
	}
}

// 16.3: the first call makes durable what was pending, the failing Replace behind it or not.
func TestFirstCallSettles(t *testing.T) {
	for k := 1; k <= 7; k++ {
		f := durable(t, 100, files{"a": old("old")})
		put(t, f, "b", old("pending"))
		f.Arm([]api.Fault{{At: k, Kind: api.FaultDown}})
		if err := commit.Replace(f, "a", "new", newMeta); (err != nil) != (k <= 6) {
			t.Errorf("16.4: the power goes at call %d: %v", k, err)
		}
		f.Restart(0, nil)
		want := files{"a": old("old"), "b": old("pending")}
		if k == 1 {
			want = want.without("b")
		}
		if k == 7 {
			want["a"] = fresh("new")
		}
		wantFiles(t, fmt.Sprintf("the power goes at call %d", k), f, want)
	}
}

// 16.4: what the volume itself refuses comes as it is: no room, at each of the Writes, and no room in the directory.
func TestVolumeRefuses(t *testing.T) {
	const c = api.Chunk
	data := filled(2*c + 1)
	for _, r := range []struct{ room, calls int }{{0, 4}, {c - 1, 4}, {c, 5}, {2*c - 1, 5}, {2 * c, 6}} {
		what := fmt.Sprintf("room for %d bytes", r.room)
		f := durable(t, 3+r.room, files{"a": old("old")})
		wantErr(t, what, commit.Replace(f, "a", data, newMeta), "write", temp, api.ErrFull)
		wantCalls(t, what, f, r.calls)
		wantFiles(t, what, f, files{"a": old("old")})
	}
	f := durable(t, 3+2*c+1, files{"a": old("old")})
	wantErr(t, "just room", commit.Replace(f, "a", data, newMeta), "", "", api.OK)
	wantFiles(t, "just room", f, files{"a": fresh(data)})
	many := files{}
	for i := range api.MaxFiles {
		many[fmt.Sprint("f", i)] = old("")
	}
	for _, name := range []string{"f0", "new"} {
		f = durable(t, 100, many)
		wantErr(t, "a full directory", commit.Replace(f, name, "new", newMeta), "create", temp, api.ErrMany)
		wantCalls(t, "a full directory", f, 3)
		wantFiles(t, "a full directory", f, many)
		few := many.without("f1")
		f = durable(t, 100, few)
		wantErr(t, "a name left", commit.Replace(f, name, "new", newMeta), "", "", api.OK)
		wantFiles(t, "a name left", f, few.but(name, fresh("new")))
	}
}

// 16.5: Remove is called once behind Create, Write, Sync or Rename that failed, whatever it answers itself, and that is let go.
func TestRemoveAnswersWhatever(t *testing.T) {
	for _, n := range lengths() {
		list := expected(n)
		for k := 1; k <= len(list)+1; k++ {
			for _, second := range kinds() {
				what := fmt.Sprintf("%d bytes, call %d fails, then fault %d", n, k, second)
				f := durable(t, 10000, files{"a": old("old"), temp: old("left")})
				f.Arm([]api.Fault{{At: k, Kind: api.FaultIO}, {At: k + 1, Kind: second}})
				wantStruck(t, what, commit.Replace(f, "a", filled(n), newMeta), list, k, api.FaultIO)
				calls := min(k, len(list))
				if undone(list, k) {
					calls++
				}
				wantCalls(t, what, f, calls)
				wantDown(t, what, f, undone(list, k) && second == api.FaultDown)
			}
		}
	}
}

// 16.5: it is TempName that is removed; where Remove is struck it stays, and where it is not called a leftover stays.
func TestWhatIsRemoved(t *testing.T) {
	list := expected(3)
	for k := 1; k <= len(list)+1; k++ {
		for _, removed := range []bool{false, true} {
			what := fmt.Sprintf("call %d fails, Remove works: %v", k, removed)
			f := durable(t, 100, files{"a": old("old"), "b": old("other"), temp: old("left")})
			plan := []api.Fault{{At: k, Kind: api.FaultIO}}
			if !removed {
				plan = append(plan, api.Fault{At: k + 1, Kind: api.FaultIO})
			}
			f.Arm(plan)
			wantStruck(t, what, commit.Replace(f, "a", "new", newMeta), list, k, api.FaultIO)
			left := []file{old("left"), old("left"), fresh(""), fresh("new"), fresh("new")}
			want := files{"a": old("old"), "b": old("other")}
			switch {
			case k >= len(list):
				want["a"] = fresh("new")
			case !removed || k == 1:
				want[temp] = left[k-1]
			}
			wantFiles(t, what, f, want)
		}
	}
}
