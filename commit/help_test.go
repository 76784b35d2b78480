package commit_test

import (
	"maps"
	"strings"
	"testing"

	"shelf/api"
	"shelf/vfs"
)

const temp = api.TempName

// file is a file of a volume: its bytes and its Meta.
type file struct {
	data string
	meta api.Meta
}

// files are the files of a volume by their names.
type files map[string]file

// oldMeta and newMeta differ in every field.
var (
	oldMeta = api.Meta{Date: 3, UID: 30, GID: 300, Mode: 0o600}
	newMeta = api.Meta{Date: 9, UID: 8, GID: 7, Mode: 6}
)

// old is a file as tests lay it out.
func old(data string) file { return file{data, oldMeta} }

// fresh is a file as tests put it there by Replace.
func fresh(data string) file { return file{data, newMeta} }

// but is the files with one more, or with another one of this name.
func (list files) but(name string, f file) files {
	out := maps.Clone(list)
	out[name] = f
	return out
}

// without is the files but the one of this name.
func (list files) without(name string) files {
	out := maps.Clone(list)
	delete(out, name)
	return out
}

// durable makes a volume with just these files, all durable; the count is 0.
func durable(t *testing.T, capacity int, list files) *vfs.FS {
	t.Helper()
	f := vfs.New(capacity)
	if f == nil {
		t.Fatalf("New(%d) gives none", capacity)
	}
	for name, x := range list {
		put(t, f, name, x)
	}
	must(t, f.SyncDir())
	f.Arm(nil)
	return f
}

// put puts a file there whose bytes are durable; that there is such a name is not.
func put(t *testing.T, f *vfs.FS, name string, x file) {
	t.Helper()
	h, err := f.Create(name, x.meta)
	must(t, err)
	_, err = h.Write(x.data)
	must(t, err)
	must(t, h.Sync())
	must(t, h.Close())
}

func must(t *testing.T, err error) {
	t.Helper()
	if err != nil {
		t.Fatal(err)
	}
}

// look tells all the files of a volume with the power on. It takes the plan away.
func look(t *testing.T, f *vfs.FS) files {
	t.Helper()
	f.Arm(nil)
	names, err := f.List()
	must(t, err)
	out := files{}
	for _, name := range names {
		info, err := f.Stat(name)
		must(t, err)
		data, err := f.ReadFile(name)
		must(t, err)
		out[name] = file{data, info.Meta}
	}
	return out
}

// wantFiles: are just these files there?
func wantFiles(t *testing.T, what string, f *vfs.FS, want files) {
	t.Helper()
	if got := look(t, f); !maps.Equal(got, want) {
		t.Errorf("%s: the files are %v, want %v", what, got, want)
	}
}

// wantErr: is the error itself a *api.FileError of just these, and nil itself if e is OK?
func wantErr(t *testing.T, what string, err error, op, name string, e api.Errno) {
	t.Helper()
	if e == api.OK {
		if err != nil {
			t.Errorf("%s: error %v, want none", what, err)
		}
		return
	}
	f, ok := err.(*api.FileError)
	if !ok || f == nil {
		t.Errorf("%s: error %v of type %T, want a *api.FileError with %v", what, err, err, e)
		return
	}
	if *f != (api.FileError{Op: op, Name: name, Err: e}) {
		t.Errorf("%s: error %q %q %d, want %q %q %d", what, f.Op, f.Name, f.Err, op, name, e)
	}
}

func wantCalls(t *testing.T, what string, f *vfs.FS, n int) {
	t.Helper()
	if f.Calls() != n {
		t.Errorf("%s: %d calls, want %d", what, f.Calls(), n)
	}
}

func wantDown(t *testing.T, what string, f *vfs.FS, down bool) {
	t.Helper()
	if f.Down() != down {
		t.Errorf("%s: Down() = %v, want %v", what, f.Down(), down)
	}
}

// filled is a text of n bytes in which no piece is like another one.
func filled(n int) string {
	var b strings.Builder
	for i := range n {
		b.WriteByte(byte(i*7 + i/256*13 + 1))
	}
	return b.String()
}

// kinds are the kinds of faults.
func kinds() []int { return []int{api.FaultIO, api.FaultShort, api.FaultDown} }

// struck is the Errno of a call that a fault of this kind strikes.
func struck(kind int) api.Errno {
	if kind == api.FaultDown {
		return api.ErrDown
	}
	return api.ErrIO
}
