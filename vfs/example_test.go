package vfs_test

import (
	"strings"
	"testing"

	"shelf/api"
	"shelf/vfs"
)

// The chapter's examples, row by row.
func TestExamples(t *testing.T) {
	f := vfs.New(100)
	wantGone(t, f, "a")
	wantCalls(t, f, 1)
	h := mustCreate(t, f, "a", api.Meta{Date: 5, Mode: 420})
	wantCalls(t, f, 2)
	wantWrite(t, h, "hello", 5, api.OK)
	wantCalls(t, f, 3)
	info, err := f.Stat("a")
	wantErr(t, err, "stat", "a", api.OK)
	if info != (api.Info{Meta: api.Meta{Date: 5, Mode: 420}, Name: "a", Size: 5}) {
		t.Errorf("Stat = %+v", info)
	}
	wantCalls(t, f, 4)
	wantWrite(t, h, strings.Repeat("x", 96), 0, api.ErrFull)
	wantCalls(t, f, 5)
	f.Arm([]api.Fault{{At: 2, Kind: api.FaultShort, N: 3}, {At: 3, Kind: api.FaultIO}})
	wantCalls(t, f, 0)
	wantErr(t, h.Sync(), "sync", "a", api.OK)
	wantCalls(t, f, 1)
	wantWrite(t, h, "world", 3, api.ErrIO)
	wantCalls(t, f, 2)
	wantErr(t, f.SyncDir(), "syncdir", "", api.ErrIO)
	wantCalls(t, f, 3)
	wantData(t, f, "a", "hellowor")
	wantCalls(t, f, 4)
	wantErr(t, f.Rename("a", "b/c"), "rename", "a", api.ErrFileName)
	wantCalls(t, f, 5)
	wantErr(t, f.Rename("a", "b"), "rename", "a", api.OK)
	wantCalls(t, f, 6)
	wantWrite(t, h, "!", 1, api.OK)
	wantCalls(t, f, 7)
	wantData(t, f, "b", "hellowor!")
	wantCalls(t, f, 8)
	wantErr(t, f.SyncDir(), "syncdir", "", api.OK)
	wantCalls(t, f, 9)
	examplesDown(t, f, h)
}

// examplesDown are the rows from the one on in which the power goes.
func examplesDown(t *testing.T, f *vfs.FS, h *vfs.File) {
	t.Helper()
	f.Arm([]api.Fault{{At: 1, Kind: api.FaultDown}})
	wantCalls(t, f, 0)
	wantErr(t, h.Sync(), "sync", "a", api.ErrDown)
	wantCalls(t, f, 1)
	wantErr(t, h.Sync(), "sync", "a", api.ErrDown)
	names, err := f.List()
	wantErr(t, err, "list", "", api.ErrDown)
	if names != nil {
		t.Errorf("List, refused: %q", names)
	}
	wantCalls(t, f, 1)
	f.Restart(0, []int{2})
	wantCalls(t, f, 0)
	wantWrite(t, h, "x", 0, api.ErrClosed)
	wantCalls(t, f, 0)
	wantData(t, f, "b", "hellowo")
	wantCalls(t, f, 1)
	wantErr(t, h.Close(), "close", "a", api.ErrClosed)
	wantCalls(t, f, 1)
}
