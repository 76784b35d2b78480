package commit_test

import (
	"strings"
	"testing"

	"shelf/api"
	"shelf/commit"
	"shelf/vfs"
)

// example is the volume of the chapter's examples under a plan.
func example(t *testing.T, plan ...api.Fault) *vfs.FS {
	t.Helper()
	f := durable(t, 2000, files{"a": old("old")})
	f.Arm(plan)
	return f
}

// The chapter's examples, row by row: Load.
func TestExamplesLoad(t *testing.T) {
	f := example(t)
	wantLoad(t, f, "a", "old", true, api.OK)
	wantLoad(t, f, "b", "", false, api.OK)
	wantLoad(t, f, "b/c", "", false, api.ErrFileName)
}

// The chapter's examples, row by row: Replace.
func TestExamplesReplace(t *testing.T) {
	long := strings.Repeat("x", 1998)
	for _, c := range []struct {
		what       string
		name, data string
		plan       []api.Fault
		op, on     string
		e          api.Errno
		calls      int
		want       files
	}{
		{"three bytes", "a", "new", nil, "", "", api.OK, 6, files{"a": fresh("new")}},
		{"no bytes", "a", "", nil, "", "", api.OK, 5, files{"a": fresh("")}},
		{"1025 bytes", "a", long[:1025], nil, "", "", api.OK, 8, files{"a": fresh(long[:1025])}},
		{"1998 bytes", "a", long, nil, "write", temp, api.ErrFull, 7, files{"a": old("old")}},
		{"the tool's own file", temp, "new", nil, "replace", temp, api.ErrReserved, 0, files{"a": old("old")}},
		{"no name", "", "new", nil, "replace", "", api.ErrFileName, 0, files{"a": old("old")}},
		{"Rename fails", "a", "new", []api.Fault{{At: 5, Kind: api.FaultIO}}, "rename", temp, api.ErrIO, 6, files{"a": old("old")}},
		{"the last SyncDir fails", "a", "new", []api.Fault{{At: 6, Kind: api.FaultIO}}, "replace", "a", api.ErrUnsure, 6, files{"a": fresh("new")}},
		{"a short Write", "a", "new", []api.Fault{{At: 3, Kind: api.FaultShort, N: 2}}, "write", temp, api.ErrIO, 4, files{"a": old("old")}},
	} {
		f := example(t, c.plan...)
		wantErr(t, c.what, commit.Replace(f, c.name, c.data, newMeta), c.op, c.on, c.e)
		wantCalls(t, c.what, f, c.calls)
		wantFiles(t, c.what, f, c.want)
	}
}

// The chapter's examples, row by row: what is there behind a restart.
func TestExamplesRestart(t *testing.T) {
	for dirOps, want := range []file{old("old"), old("old"), fresh("new")} {
		f := example(t, api.Fault{At: 6, Kind: api.FaultIO})
		wantErr(t, "the last SyncDir fails", commit.Replace(f, "a", "new", newMeta), "replace", "a", api.ErrUnsure)
		f.Restart(dirOps, []int{0})
		if got := look(t, f)["a"]; got != want {
			t.Errorf("the last SyncDir fails, Restart(%d, ..): %v, want %v", dirOps, got, want)
		}
	}
	f := example(t, api.Fault{At: 5, Kind: api.FaultDown})
	wantErr(t, "the power goes at Rename", commit.Replace(f, "a", "new", newMeta), "rename", temp, api.ErrDown)
	f.Restart(1, []int{0})
	wantFiles(t, "the power goes at Rename, Restart(1, [0])", f, files{"a": old("old"), temp: fresh("new")})
}
