package vfs_test

import (
	"fmt"
	"math"
	"slices"
	"testing"

	"shelf/api"
	"shelf/vfs"
)

// 4.11
func TestWrite(t *testing.T) {
	f := vfs.New(8)
	h := mustCreate(t, f, "a", api.Meta{})
	wantWrite(t, h, "", 0, api.OK)
	wantCalls(t, f, 2)
	wantWrite(t, h, "one", 3, api.OK)
	wantWrite(t, h, "two\n\x00", 5, api.OK)
	wantWrite(t, h, "x", 0, api.ErrFull)
	wantWrite(t, h, "", 0, api.OK)
	wantData(t, f, "a", "onetwo\n\x00")
	wantCalls(t, f, 7)
}

// 4.11: a Write that does not fit writes nothing of it.
func TestWriteAllOrNothing(t *testing.T) {
	f := vfs.New(8)
	a := mustCreate(t, f, "a", api.Meta{})
	b := mustCreate(t, f, "b", api.Meta{})
	wantWrite(t, a, "12345", 5, api.OK)
	wantWrite(t, b, "1234", 0, api.ErrFull)
	wantData(t, f, "b", "")
	wantWrite(t, b, "123", 3, api.OK)
	wantData(t, f, "b", "123")
}

// 4.13: the handle goes with the body, under whatever name.
func TestHandleFollowsItsBody(t *testing.T) {
	f := vfs.New(100)
	h := mustCreate(t, f, "a", api.Meta{})
	wantWrite(t, h, "1", 1, api.OK)
	for i, to := range []string{"b", "c", "a", "a", "d"} {
		from := []string{"a", "b", "c", "a", "a"}[i]
		wantErr(t, f.Rename(from, to), "rename", from, api.OK)
		wantWrite(t, h, fmt.Sprint(i), 1, api.OK)
		wantErr(t, h.Sync(), "sync", "a", api.OK)
		if h.Name() != "a" {
			t.Errorf("Name() = %q", h.Name())
		}
	}
	wantList(t, f, "d")
	wantData(t, f, "d", "101234")
	other := mustCreate(t, f, "a", api.Meta{})
	wantWrite(t, h, "!", 1, api.OK)
	wantWrite(t, other, "?", 1, api.OK)
	wantData(t, f, "d", "101234!")
	wantData(t, f, "a", "?")
}

// 4.13: each way in which a body is given up.
func TestGivenUpBodies(t *testing.T) {
	for what, giveUp := range map[string]func(f *vfs.FS) error{
		"create": func(f *vfs.FS) error { _, err := f.Create("a", api.Meta{}); return err },
		"rename": func(f *vfs.FS) error { return f.Rename("b", "a") },
		"remove": func(f *vfs.FS) error { return f.Remove("a") },
	} {
		f := vfs.New(100)
		h := mustCreate(t, f, "a", api.Meta{})
		mustCreate(t, f, "b", api.Meta{})
		wantWrite(t, h, "x", 1, api.OK)
		if err := giveUp(f); err != nil {
			t.Fatal(what, err)
		}
		before := tell(f)
		wantWrite(t, h, "x", 0, api.ErrBody)
		wantWrite(t, h, "", 0, api.ErrBody)
		wantErr(t, h.Sync(), "sync", "a", api.ErrBody)
		if got := tell(f); got != before {
			t.Errorf("%s: a handle without a body changed the volume", what)
		}
		if h.Name() != "a" {
			t.Errorf("Name() = %q", h.Name())
		}
		wantErr(t, h.Close(), "close", "a", api.OK)
		wantWrite(t, h, "x", 0, api.ErrClosed)
	}
}

// 4.13: several handles at one time, each with its own body.
func TestSeveralHandles(t *testing.T) {
	f := vfs.New(1000)
	var handles []*vfs.File
	for i := range 10 {
		handles = append(handles, mustCreate(t, f, fmt.Sprint("f", i), api.Meta{}))
	}
	for round := range 3 {
		for i, h := range handles {
			wantWrite(t, h, fmt.Sprint(i, round, ";"), 4, api.OK)
		}
	}
	wantErr(t, handles[4].Close(), "close", "f4", api.OK)
	for i, h := range handles {
		e := api.OK
		if i == 4 {
			e = api.ErrClosed
		}
		wantErr(t, h.Sync(), "sync", fmt.Sprint("f", i), e)
		wantData(t, f, fmt.Sprint("f", i), fmt.Sprintf("%d 0;%d 1;%d 2;", i, i, i))
	}
}

// 4.14
func TestClose(t *testing.T) {
	f := vfs.New(100)
	h := mustCreate(t, f, "a", api.Meta{})
	k := mustCreate(t, f, "b", api.Meta{})
	wantWrite(t, h, "loose", 5, api.OK)
	f.Arm([]api.Fault{{At: 1, Kind: api.FaultIO}, {At: 2, Kind: api.FaultDown}})
	wantErr(t, h.Close(), "close", "a", api.OK)
	wantErr(t, h.Close(), "close", "a", api.ErrClosed)
	wantErr(t, h.Close(), "close", "a", api.ErrClosed)
	wantCalls(t, f, 0)
	wantErr(t, k.Sync(), "sync", "b", api.ErrIO)
	wantErr(t, k.Sync(), "sync", "b", api.ErrDown)
	wantErr(t, k.Close(), "close", "b", api.OK)
	wantErr(t, k.Close(), "close", "b", api.ErrClosed)
	wantCalls(t, f, 2)
	wantDown(t, f, true)
	f.Restart(2, nil)
	wantData(t, f, "a", "")
}

// 4.14: a closed handle leaves its file, and other handles of that name, as they are.
func TestCloseOneOfTwo(t *testing.T) {
	f := vfs.New(100)
	old := mustCreate(t, f, "a", api.Meta{})
	h := mustCreate(t, f, "a", api.Meta{})
	wantErr(t, old.Close(), "close", "a", api.OK)
	wantWrite(t, h, "data", 4, api.OK)
	wantErr(t, h.Close(), "close", "a", api.OK)
	wantData(t, f, "a", "data")
	again := mustCreate(t, f, "a", api.Meta{})
	wantWrite(t, h, "x", 0, api.ErrClosed)
	wantWrite(t, again, "x", 1, api.OK)
}

// 4.15
func TestNameIsKept(t *testing.T) {
	f := vfs.New(100)
	for _, name := range []string{"a", "\xff ", "a name", "."} {
		h := mustCreate(t, f, name, api.Meta{})
		told := []string{h.Name()}
		wantErr(t, f.Rename(name, "other"), "rename", name, api.OK)
		told = append(told, h.Name())
		wantErr(t, f.Remove("other"), "remove", "other", api.OK)
		told = append(told, h.Name())
		wantErr(t, h.Close(), "close", name, api.OK)
		told = append(told, h.Name())
		f.Restart(0, nil)
		told = append(told, h.Name())
		if !slices.Equal(told, slices.Repeat([]string{name}, 5)) {
			t.Errorf("Name() = %q, want %q each time", told, name)
		}
		wantErr(t, h.Close(), "close", name, api.ErrClosed)
	}
}

// 4.4: with the power on or off, all is as New left it but for the files.
func TestRestart(t *testing.T) {
	for _, down := range []bool{false, true} {
		f, h := stage(t)
		if down {
			f.Arm([]api.Fault{{At: 1, Kind: api.FaultDown}})
			f.List()
		}
		f.Arm([]api.Fault{{At: 1, Kind: api.FaultIO}, {At: 2, Kind: api.FaultDown}})
		wantDown(t, f, down)
		f.Restart(1, []int{0, 2})
		wantDown(t, f, false)
		wantCalls(t, f, 0)
		wantWrite(t, h, "x", 0, api.ErrClosed)
		wantErr(t, h.Sync(), "sync", "b", api.ErrClosed)
		wantErr(t, h.Close(), "close", "b", api.ErrClosed)
		wantCalls(t, f, 0)
		wantData(t, f, "a", "one")
		wantData(t, f, "b", "tw")
		wantList(t, f, "a", "b")
		wantCalls(t, f, 3)
		k := mustCreate(t, f, "c", api.Meta{})
		wantWrite(t, k, "x", 1, api.OK)
		f.Restart(1, nil)
		wantWrite(t, k, "x", 0, api.ErrClosed)
		wantWrite(t, h, "x", 0, api.ErrClosed)
		wantCalls(t, f, 0)
	}
}

// 4.4: a handle is closed by a restart also if its file is there again.
func TestRestartClosesHandlesOfGivenUpBodies(t *testing.T) {
	f := vfs.New(100)
	h := mustCreate(t, f, "a", api.Meta{})
	wantErr(t, f.SyncDir(), "syncdir", "", api.OK)
	wantErr(t, f.Remove("a"), "remove", "a", api.OK)
	wantWrite(t, h, "x", 0, api.ErrBody)
	f.Restart(0, nil)
	wantList(t, f, "a")
	wantWrite(t, h, "x", 0, api.ErrClosed)
	k := mustCreate(t, f, "a", api.Meta{})
	wantWrite(t, k, "x", 1, api.OK)
	wantData(t, f, "a", "x")
}

// 4.4: dirOps and cuts of every size, which are neither changed nor kept.
func TestRestartChoices(t *testing.T) {
	for _, c := range []struct {
		dirOps int
		cuts   []int
		want   []string // the bytes of a, b, c; "-": there is none
	}{
		{0, nil, []string{"old", "-", "-"}}, {-1, []int{5}, []string{"old123", "-", "-"}}, {math.MinInt, []int{1, 9}, []string{"old1", "-", "-"}},
		{1, []int{1, 2}, []string{"old1", "ne", "-"}}, {1, []int{math.MinInt, math.MaxInt}, []string{"old", "new", "-"}}, {1, []int{2}, []string{"old12", "ne", "-"}},
		{2, []int{3, 1}, []string{"old123", "-", "n"}}, {2, []int{-1, -1, 7}, []string{"old", "-", ""}},
		{3, []int{1, 2}, []string{"-", "-", "n"}}, {4, nil, []string{"-", "-", ""}}, {math.MaxInt, []int{math.MaxInt}, []string{"-", "-", "new"}},
	} {
		f := vfs.New(100)
		h := mustCreate(t, f, "a", api.Meta{})
		wantWrite(t, h, "old", 3, api.OK)
		wantErr(t, h.Sync(), "sync", "a", api.OK)
		wantErr(t, f.SyncDir(), "syncdir", "", api.OK)
		wantWrite(t, h, "123", 3, api.OK)
		wantWrite(t, mustCreate(t, f, "b", api.Meta{}), "new", 3, api.OK)
		wantErr(t, f.Rename("b", "c"), "rename", "b", api.OK)
		wantErr(t, f.Remove("a"), "remove", "a", api.OK)
		cuts := append(slices.Clone(c.cuts), 77)
		f.Restart(c.dirOps, cuts[:len(c.cuts)])
		if !slices.Equal(cuts[:len(c.cuts)], c.cuts) || cuts[len(c.cuts)] != 77 {
			t.Errorf("Restart changes cuts: %v", cuts)
		}
		for i := range cuts {
			cuts[i] = 0
		}
		for i, name := range []string{"a", "b", "c"} {
			if c.want[i] == "-" {
				wantGone(t, f, name)
			} else {
				wantData(t, f, name, c.want[i])
			}
		}
		if t.Failed() {
			t.Fatalf("Restart(%d, %v)", c.dirOps, c.cuts)
		}
	}
}
