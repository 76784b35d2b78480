package commit_test

import (
	"fmt"
	"math"
	"strings"
	"testing"

	"shelf/api"
	"shelf/commit"
	"shelf/vfs"
)

// wantLoad: does Load answer just these, with one call?
func wantLoad(t *testing.T, f *vfs.FS, name, data string, there bool, e api.Errno) {
	t.Helper()
	calls := f.Calls()
	got, is, err := commit.Load(f, name)
	wantErr(t, fmt.Sprintf("Load of %q", name), err, "read", name, e)
	if got != data || is != there {
		t.Errorf("Load(%q) = %q, %v, want %q, %v", name, got, is, data, there)
	}
	wantCalls(t, fmt.Sprintf("Load of %q", name), f, calls+1)
}

// 16.1: a file that is there, whatever its bytes, and one that is not.
func TestLoad(t *testing.T) {
	all := filled(256 * 3)
	long := strings.Repeat("n", api.MaxFileName)
	list := files{"a": old("old"), "empty": old(""), "all": old(all), long: old("x"), "\xff ": old("y"), temp: old("left")}
	f := durable(t, 2000, list)
	for name, x := range list {
		wantLoad(t, f, name, x.data, true, api.OK)
	}
	for _, name := range []string{"b", "A", "a ", "emptY", long[1:], "."} {
		wantLoad(t, f, name, "", false, api.OK)
	}
	wantFiles(t, "behind Load", f, list)
}

// 16.1: bytes that are not durable are bytes as others are.
func TestLoadLoose(t *testing.T) {
	f := vfs.New(100)
	h, err := f.Create("a", oldMeta)
	must(t, err)
	wantLoad(t, f, "a", "", true, api.OK)
	_, err = h.Write("loose")
	must(t, err)
	wantLoad(t, f, "a", "loose", true, api.OK)
	f.Restart(0, nil)
	wantLoad(t, f, "a", "", false, api.OK)
}

// 16.1: a name that is none is another failure than a missing file.
func TestLoadNoName(t *testing.T) {
	f := durable(t, 100, files{"a": old("old")})
	for _, name := range []string{"", "/", "b/c", "a\x00", strings.Repeat("n", api.MaxFileName+1)} {
		wantLoad(t, f, name, "", false, api.ErrFileName)
	}
}

// 16.1: each kind of fault, at a file that is there, at one that is not, at a name that is none.
func TestLoadFaults(t *testing.T) {
	for _, name := range []string{"a", "b", "b/c"} {
		for _, kind := range kinds() {
			f := durable(t, 100, files{"a": old("old")})
			f.Arm([]api.Fault{{At: 1, Kind: kind, N: math.MaxInt}})
			wantLoad(t, f, name, "", false, struck(kind))
			wantDown(t, "Load", f, kind == api.FaultDown)
		}
	}
}

// 16.1: with the power off nothing is told, and nothing counted; a failed Load is not tried again.
func TestLoadDown(t *testing.T) {
	f := durable(t, 100, files{"a": old("old")})
	f.Arm([]api.Fault{{At: 1, Kind: api.FaultDown}})
	wantLoad(t, f, "a", "", false, api.ErrDown)
	for _, name := range []string{"a", "b", "b/c"} {
		data, there, err := commit.Load(f, name)
		wantErr(t, "Load with the power off", err, "read", name, api.ErrDown)
		if data != "" || there {
			t.Errorf("Load(%q) with the power off = %q, %v", name, data, there)
		}
		wantCalls(t, "Load with the power off", f, 1)
	}
	f.Restart(0, nil)
	wantLoad(t, f, "a", "old", true, api.OK)
}
