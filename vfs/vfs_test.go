package vfs_test

import (
	"errors"
	"fmt"
	"math"
	"slices"
	"strings"
	"testing"

	"shelf/api"
	"shelf/vfs"
)

// wantErr: is the error a *api.FileError of just these, and nil itself if e is OK?
func wantErr(t *testing.T, err error, op, name string, e api.Errno) {
	t.Helper()
	if e == api.OK {
		if err != nil {
			t.Errorf("%s %q: error %v, want none", op, name, err)
		}
		return
	}
	f, ok := err.(*api.FileError)
	if !ok || f == nil {
		t.Errorf("%s %q: error %v of type %T, want a *api.FileError with %v", op, name, err, err, e)
		return
	}
	if *f != (api.FileError{Op: op, Name: name, Err: e}) {
		t.Errorf("error %q %q %d, want %q %q %d", f.Op, f.Name, f.Err, op, name, e)
	}
}

func wantCalls(t *testing.T, f *vfs.FS, n int) {
	t.Helper()
	if f.Calls() != n {
		t.Errorf("Calls() = %d, want %d", f.Calls(), n)
	}
}

func wantDown(t *testing.T, f *vfs.FS, down bool) {
	t.Helper()
	if f.Down() != down {
		t.Errorf("Down() = %v, want %v", f.Down(), down)
	}
}

func wantData(t *testing.T, f *vfs.FS, name, data string) {
	t.Helper()
	got, err := f.ReadFile(name)
	wantErr(t, err, "read", name, api.OK)
	if got != data {
		t.Errorf("ReadFile(%q) = %q, want %q", name, got, data)
	}
}

func wantGone(t *testing.T, f *vfs.FS, name string) {
	t.Helper()
	got, err := f.ReadFile(name)
	wantErr(t, err, "read", name, api.ErrMissing)
	if got != "" {
		t.Errorf("ReadFile(%q) refused, with %q", name, got)
	}
}

func wantList(t *testing.T, f *vfs.FS, names ...string) {
	t.Helper()
	got, err := f.List()
	wantErr(t, err, "list", "", api.OK)
	if !slices.Equal(got, names) {
		t.Errorf("List() = %q, want %q", got, names)
	}
}

func wantWrite(t *testing.T, h *vfs.File, data string, n int, e api.Errno) {
	t.Helper()
	got, err := h.Write(data)
	wantErr(t, err, "write", h.Name(), e)
	if got != n {
		t.Errorf("Write of %d bytes: %d, want %d", len(data), got, n)
	}
}

func mustCreate(t *testing.T, f *vfs.FS, name string, meta api.Meta) *vfs.File {
	t.Helper()
	h, err := f.Create(name, meta)
	wantErr(t, err, "create", name, api.OK)
	if h == nil {
		t.Fatalf("Create(%q) gives no handle", name)
	}
	return h
}

// tell is all that can be seen of the files, as a text. It takes the plan away.
func tell(f *vfs.FS) string {
	f.Arm(nil)
	var b strings.Builder
	names, err := f.List()
	fmt.Fprintf(&b, "%q %v\n", names, err)
	for _, name := range names {
		info, err := f.Stat(name)
		data, err2 := f.ReadFile(name)
		fmt.Fprintf(&b, "%+v %v %q %v\n", info, err, data, err2)
	}
	return b.String()
}

// 4.1
func TestNewBounds(t *testing.T) {
	for _, c := range []int{-1, math.MinInt, api.MaxCapacity + 1, math.MaxInt} {
		if f := vfs.New(c); f != nil {
			t.Errorf("New(%d) gives a volume", c)
		}
	}
	for _, c := range []int{0, 1, 100, api.MaxCapacity} {
		f := vfs.New(c)
		if f == nil {
			t.Fatalf("New(%d) gives none", c)
		}
		wantCalls(t, f, 0)
		wantDown(t, f, false)
		wantList(t, f)
	}
}

// 4.1: the capacity is the disk's.
func TestNewCapacity(t *testing.T) {
	f := vfs.New(3)
	h := mustCreate(t, f, "a", api.Meta{})
	wantWrite(t, h, "1234", 0, api.ErrFull)
	wantWrite(t, h, "123", 3, api.OK)
	wantWrite(t, h, "4", 0, api.ErrFull)
	wantWrite(t, h, "", 0, api.OK)
	wantData(t, f, "a", "123")
	empty := vfs.New(0)
	h = mustCreate(t, empty, "a", api.Meta{})
	wantWrite(t, h, "1", 0, api.ErrFull)
	wantData(t, empty, "a", "")
}

// Two volumes have nothing in common.
func TestTwoVolumes(t *testing.T) {
	f, g := vfs.New(10), vfs.New(10)
	h := mustCreate(t, f, "a", api.Meta{})
	k := mustCreate(t, g, "b", api.Meta{})
	f.Arm([]api.Fault{{At: 1, Kind: api.FaultDown}})
	wantWrite(t, h, "x", 0, api.ErrDown)
	wantWrite(t, k, "y", 1, api.OK)
	wantCalls(t, f, 1)
	wantCalls(t, g, 2)
	wantDown(t, g, false)
	f.Restart(1, nil)
	wantWrite(t, k, "z", 1, api.OK)
	wantList(t, f, "a")
	wantList(t, g, "b")
	wantData(t, g, "b", "yz")
}

// R1: a volume and a handle that New and Create did not make do not panic.
func TestZeroValues(t *testing.T) {
	var f vfs.FS
	wantCalls(t, &f, 0)
	wantDown(t, &f, false)
	f.Arm([]api.Fault{{At: 2, Kind: api.FaultIO}})
	h := mustCreate(t, &f, "a", api.Meta{})
	wantErr(t, f.SyncDir(), "syncdir", "", api.ErrIO)
	wantErr(t, f.SyncDir(), "syncdir", "", api.OK)
	wantWrite(t, h, "x", 0, api.ErrFull)
	wantCalls(t, &f, 4)
	var again vfs.FS
	again.Restart(1, []int{1})
	wantList(t, &again)
	var z vfs.File
	wantWrite(t, &z, "x", 0, api.ErrClosed)
	wantErr(t, z.Sync(), "sync", "", api.ErrClosed)
	wantErr(t, z.Close(), "close", "", api.ErrClosed)
}

// 4.3: neither question is counted; every counted call is, answered or refused.
func TestCalls(t *testing.T) {
	f := vfs.New(10)
	for range 3 {
		wantCalls(t, f, 0)
		wantDown(t, f, false)
	}
	h := mustCreate(t, f, "a", api.Meta{})
	wantCalls(t, f, 1)
	wantWrite(t, h, "x", 1, api.OK)
	wantCalls(t, f, 2)
	wantErr(t, h.Sync(), "sync", "a", api.OK)
	wantCalls(t, f, 3)
	wantData(t, f, "a", "x")
	wantCalls(t, f, 4)
	f.Stat("a")
	wantCalls(t, f, 5)
	wantList(t, f, "a")
	wantCalls(t, f, 6)
	wantErr(t, f.Rename("a", "b"), "rename", "a", api.OK)
	wantCalls(t, f, 7)
	wantErr(t, f.Rename("b", "b"), "rename", "b", api.OK)
	wantCalls(t, f, 8)
	wantErr(t, f.Remove("b"), "remove", "b", api.OK)
	wantCalls(t, f, 9)
	wantErr(t, f.SyncDir(), "syncdir", "", api.OK)
	wantCalls(t, f, 10)
	wantWrite(t, h, "x", 0, api.ErrBody)
	wantCalls(t, f, 11)
	wantErr(t, h.Sync(), "sync", "a", api.ErrBody)
	wantCalls(t, f, 12)
	wantErr(t, f.Remove("/"), "remove", "/", api.ErrFileName)
	wantCalls(t, f, 13)
	h.Name()
	wantErr(t, h.Close(), "close", "a", api.OK)
	wantCalls(t, f, 13)
}

// 4.7: the bytes and what is told are those of now, loose or not, under the name of now.
func TestReadAndStat(t *testing.T) {
	f := vfs.New(100)
	meta := api.Meta{Date: -7, UID: math.MaxInt, GID: math.MinInt, Mode: 0o100644}
	h := mustCreate(t, f, "a", meta)
	for i, want := range []string{"", "one", "onetwo\x00\xff"} {
		wantData(t, f, "a", want)
		info, err := f.Stat("a")
		wantErr(t, err, "stat", "a", api.OK)
		if info != (api.Info{Meta: meta, Name: "a", Size: len(want)}) {
			t.Errorf("Stat = %+v with %q", info, want)
		}
		if i < 2 {
			wantWrite(t, h, []string{"one", "two\x00\xff"}[i], 3+2*i, api.OK)
		}
	}
	wantErr(t, f.Rename("a", "b"), "rename", "a", api.OK)
	wantGone(t, f, "a")
	info, err := f.Stat("b")
	wantErr(t, err, "stat", "b", api.OK)
	if info != (api.Info{Meta: meta, Name: "b", Size: 8}) {
		t.Errorf("Stat = %+v behind Rename", info)
	}
}

// badNames are no files' names.
func badNames() []string {
	return []string{"", "/", "a/b", "a/", "x\x00y", "\x00", strings.Repeat("n", api.MaxFileName+1)}
}

// 4.7, 4.9, 4.10: the disk's refusals come through, with zero values.
func TestRefusedNames(t *testing.T) {
	f := vfs.New(100)
	mustCreate(t, f, "a", api.Meta{Date: 1})
	before := tell(f)
	for _, name := range badNames() {
		data, err := f.ReadFile(name)
		wantErr(t, err, "read", name, api.ErrFileName)
		info, err := f.Stat(name)
		wantErr(t, err, "stat", name, api.ErrFileName)
		h, err := f.Create(name, api.Meta{Date: 1})
		wantErr(t, err, "create", name, api.ErrFileName)
		if data != "" || info != (api.Info{}) || h != nil {
			t.Errorf("refused %q: %q %+v %v beside", name, data, info, h)
		}
		wantErr(t, f.Remove(name), "remove", name, api.ErrFileName)
		wantErr(t, f.Rename(name, "b"), "rename", name, api.ErrFileName)
		wantErr(t, f.Rename("a", name), "rename", "a", api.ErrFileName)
		wantErr(t, f.Rename("missing", name), "rename", "missing", api.ErrFileName)
	}
	for _, name := range []string{"b", "A", ".", "\xff", strings.Repeat("n", api.MaxFileName)} {
		wantGone(t, f, name)
		info, err := f.Stat(name)
		wantErr(t, err, "stat", name, api.ErrMissing)
		if info != (api.Info{}) {
			t.Errorf("refused Stat: %+v", info)
		}
		wantErr(t, f.Remove(name), "remove", name, api.ErrMissing)
		wantErr(t, f.Rename(name, "a"), "rename", name, api.ErrMissing)
		wantErr(t, f.Rename(name, name), "rename", name, api.ErrMissing)
	}
	if got := tell(f); got != before {
		t.Errorf("refused calls changed the volume:\n%s\n%s", before, got)
	}
}

// 4.8
func TestListSortedAndNew(t *testing.T) {
	f := vfs.New(10)
	for _, name := range []string{"b", "ab", "\xff", "a", "é", "B", "a ", "a\x01"} {
		mustCreate(t, f, name, api.Meta{})
	}
	want := []string{"B", "a", "a\x01", "a ", "ab", "b", "é", "\xff"}
	wantList(t, f, want...)
	first, _ := f.List()
	first[0] = "spoilt"
	first = append(first[:3], "spoilt", "spoilt")
	wantList(t, f, want...)
	second, _ := f.List()
	third, _ := f.List()
	second[1] = "spoilt"
	if third[1] != "a" || first[1] != "a" {
		t.Error("two lists share their memory")
	}
}

// 4.9
func TestCreate(t *testing.T) {
	f := vfs.New(10)
	for i := range api.MaxFiles {
		mustCreate(t, f, fmt.Sprint("n", i), api.Meta{Date: i})
	}
	h, err := f.Create("more", api.Meta{})
	wantErr(t, err, "create", "more", api.ErrMany)
	if h != nil {
		t.Error("a refused Create gives a handle")
	}
	old := mustCreate(t, f, "n7", api.Meta{Date: 100})
	wantWrite(t, old, "old", 3, api.OK)
	h = mustCreate(t, f, "n7", api.Meta{Date: 200})
	wantData(t, f, "n7", "")
	wantWrite(t, h, "new", 3, api.OK)
	wantWrite(t, old, "old", 0, api.ErrBody)
	wantData(t, f, "n7", "new")
	info, _ := f.Stat("n7")
	if info.Date != 200 || h.Name() != "n7" {
		t.Errorf("behind Create: %+v, handle %q", info, h.Name())
	}
	wantErr(t, f.Remove("n0"), "remove", "n0", api.OK)
	mustCreate(t, f, "more", api.Meta{})
	h, err = f.Create("n0", api.Meta{})
	wantErr(t, err, "create", "n0", api.ErrMany)
	if h != nil {
		t.Error("a refused Create gives a handle")
	}
}

// 4.10
func TestRenameRemove(t *testing.T) {
	f := vfs.New(10)
	wantWrite(t, mustCreate(t, f, "a", api.Meta{}), "one", 3, api.OK)
	wantWrite(t, mustCreate(t, f, "b", api.Meta{}), "two", 3, api.OK)
	wantErr(t, f.Rename("a", "b"), "rename", "a", api.OK)
	wantList(t, f, "b")
	wantData(t, f, "b", "one")
	wantErr(t, f.Rename("b", "b"), "rename", "b", api.OK)
	wantData(t, f, "b", "one")
	wantErr(t, f.Remove("b"), "remove", "b", api.OK)
	wantErr(t, f.Remove("b"), "remove", "b", api.ErrMissing)
	wantList(t, f)
	wantWrite(t, mustCreate(t, f, "c", api.Meta{}), "0123456789", 10, api.OK)
}

// 4.10, 4.12: what SyncDir and Sync make durable, and that nothing else does.
func TestDurable(t *testing.T) {
	for _, c := range []struct {
		dir, data bool
		want      string
	}{
		{false, false, "[] <nil>\n"}, {false, true, "[] <nil>\n"},
		{true, false, `["a"] <nil>` + "\n" + `{Meta:{Date:0 UID:0 GID:0 Mode:0} Name:a Size:0} <nil> "" <nil>` + "\n"},
		{true, true, `["a"] <nil>` + "\n" + `{Meta:{Date:0 UID:0 GID:0 Mode:0} Name:a Size:4} <nil> "data" <nil>` + "\n"},
	} {
		f := vfs.New(10)
		h := mustCreate(t, f, "a", api.Meta{})
		wantWrite(t, h, "data", 4, api.OK)
		if c.data {
			wantErr(t, h.Sync(), "sync", "a", api.OK)
		}
		if c.dir {
			wantErr(t, f.SyncDir(), "syncdir", "", api.OK)
		}
		wantWrite(t, h, "more", 4, api.OK)
		wantErr(t, h.Close(), "close", "a", api.OK)
		f.Restart(0, nil)
		if got := tell(f); got != c.want {
			t.Errorf("dir %v, data %v: %s, want %s", c.dir, c.data, got, c.want)
		}
	}
}

// 4.16, 4.17: what the library's questions say of an error.
func TestErrorQuestions(t *testing.T) {
	f := vfs.New(10)
	_, err := f.ReadFile("a")
	wrapped := fmt.Errorf("it fails: %w", err)
	if !errors.Is(err, api.ErrMissing) || !errors.Is(wrapped, api.ErrMissing) {
		t.Errorf("errors.Is does not find ErrMissing in %v", err)
	}
	if errors.Is(err, api.ErrIO) || errors.Is(err, api.ErrFileName) {
		t.Errorf("errors.Is finds another reason in %v", err)
	}
	var file *api.FileError
	if !errors.As(wrapped, &file) || file.Op != "read" || file.Name != "a" || file.Err != api.ErrMissing {
		t.Errorf("errors.As finds %v", file)
	}
	var code api.Errno
	if !errors.As(err, &code) || code != api.ErrMissing {
		t.Errorf("errors.As finds %d", code)
	}
	if err.Error() != "read a: no such file" {
		t.Errorf("the error says %q", err)
	}
}

// 4.16: a later error does not change an earlier one.
func TestErrorsAreNew(t *testing.T) {
	f := vfs.New(10)
	first := f.Remove("a")
	first.(*api.FileError).Name = "spoilt"
	second := f.Remove("a")
	wantErr(t, second, "remove", "a", api.ErrMissing)
	f.Remove("b")
	wantErr(t, second, "remove", "a", api.ErrMissing)
}
