package files_test

import (
	"errors"
	"strings"
	"testing"

	"shelf/api"
	"shelf/files"
	"shelf/vfs"
)

// newFile is a new, empty file and its volume; the count of calls is 0.
func newFile(t *testing.T) (*vfs.FS, *vfs.File) {
	t.Helper()
	f := vfs.New(2000)
	h, err := f.Create("a", api.Meta{})
	if err != nil {
		t.Fatal(err)
	}
	f.Arm(nil)
	return f, h
}

// 16.5, 17.13, 19.16: the handle is closed in every case. Those who call Replace, Exec and Run cannot ask the handle, so Fill is asked by itself.
func TestHandleIsClosed(t *testing.T) {
	for at := range 5 {
		for _, kind := range []int{api.FaultIO, api.FaultShort, api.FaultDown} {
			f, h := newFile(t)
			f.Arm([]api.Fault{{At: at, Kind: kind}})
			err := files.Fill(h, strings.Repeat("x", api.Chunk+1))
			if (err != nil) != (at >= 1 && at <= 3) {
				t.Errorf("fault %d at call %d: %v", kind, at, err)
			}
			if err := h.Close(); !errors.Is(err, api.ErrClosed) {
				t.Errorf("fault %d at call %d leaves the handle open: %v", kind, at, err)
			}
		}
	}
}

// The bytes are written in pieces of Chunk bytes, one call each, none of them empty; then they are durable.
func TestPieces(t *testing.T) {
	for _, n := range []int{0, 1, api.Chunk - 1, api.Chunk, api.Chunk + 1, 2 * api.Chunk, 2*api.Chunk + 1} {
		data := strings.Repeat("abcdefg", n/7+1)[:n]
		f, h := newFile(t)
		if err := files.Fill(h, data); err != nil {
			t.Fatal(err)
		}
		if calls := (n+api.Chunk-1)/api.Chunk + 1; f.Calls() != calls {
			t.Errorf("%d bytes: %d calls, want %d", n, f.Calls(), calls)
		}
		f.Restart(1, nil)
		if got, err := f.ReadFile("a"); got != data || err != nil {
			t.Errorf("%d bytes: %q, %v behind a restart", n, got, err)
		}
	}
}

// Code finds the Errno of a FileError alone, behind others too.
func TestCode(t *testing.T) {
	inner := &api.FileError{Op: "read", Name: "a", Err: api.ErrMissing}
	for _, c := range []struct {
		err  error
		want api.Errno
	}{{inner, api.ErrMissing}, {errors.Join(errors.New("other"), inner), api.ErrMissing}, {errors.New("other"), api.OK}, {nil, api.OK}} {
		if got := files.Code(c.err); got != c.want {
			t.Errorf("Code(%v) = %d, want %d", c.err, got, c.want)
		}
	}
}

// Refusal takes what the volume takes as a file's name, but for the program's own file.
func TestRefusal(t *testing.T) {
	list := []string{"a", "a b", ".", "..", "\xff", "ar.tmp", "ar.tmp~~", "AR.TMP~", "+", "", "/", "a/b", "a/", "\x00", "a\x00b", "a\n"}
	for n := range 4 {
		list = append(list, strings.Repeat("n", 62+n))
	}
	for _, name := range list {
		f, _ := newFile(t)
		_, err := f.Create(name, api.Meta{})
		if got := files.Refusal(name); got != files.Code(err) {
			t.Errorf("Refusal(%q) = %d, the volume answers %v", name, got, err)
		}
	}
	if got := files.Refusal(api.TempName); got != api.ErrReserved {
		t.Errorf("Refusal of the program's own file = %d", got)
	}
}
