package fetch_test

import (
	"fmt"
	"strings"
	"testing"

	"shelf/api"
	"shelf/fetch"
	"shelf/vfs"
)

// volume has a file "a" with hello, an empty one, and the program's own; the count of calls is 0.
func volume(t *testing.T) *vfs.FS {
	t.Helper()
	f := vfs.New(100)
	for name, data := range map[string]string{"a": "hello", "e": "", api.TempName: "hello"} {
		h, err := f.Create(name, api.Meta{})
		if err != nil {
			t.Fatal(err)
		}
		if _, err := h.Write(data); err != nil {
			t.Fatal(err)
		}
	}
	f.Arm(nil)
	return f
}

// File reads what a user may name, by one call; the program's own file by none.
func TestFile(t *testing.T) {
	for _, c := range []struct {
		name, data string
		code       api.Errno
		calls      int
	}{
		{"a", "hello", api.OK, 1}, {"e", "", api.OK, 1}, {"no", "", api.ErrMissing, 1}, {"", "", api.ErrFileName, 1}, {"a/b", "", api.ErrFileName, 1},
		{strings.Repeat("n", 65), "", api.ErrFileName, 1}, {api.TempName, "", api.ErrReserved, 0}, {"ar.tmp", "", api.ErrMissing, 1},
	} {
		f := volume(t)
		if data, e := fetch.File(f, c.name); data != c.data || e != c.code || f.Calls() != c.calls {
			t.Errorf("File(%q) = %q, %d by %d calls, want %q, %d by %d", c.name, data, e, f.Calls(), c.data, c.code, c.calls)
		}
	}
}

// Member reads a file of the member's size: what is missing is lost, what has another size is stale, and where there are no data no file is asked for.
func TestMember(t *testing.T) {
	for _, c := range []struct {
		name  string
		size  int
		data  string
		code  api.Errno
		calls int
	}{
		{"a", 5, "hello", api.OK, 1}, {"a", 4, "", api.ErrStale, 1}, {"a", 6, "", api.ErrStale, 1}, {"a", -5, "", api.ErrStale, 1}, {"e", 1, "", api.ErrStale, 1},
		{"no", 5, "", api.ErrLost, 1}, {"a/b", 5, "", api.ErrLost, 1}, {"", 5, "", api.ErrLost, 1}, {api.TempName, 5, "", api.ErrReserved, 0},
		{"a", 0, "", api.OK, 0}, {"no", 0, "", api.OK, 0}, {"a/b", 0, "", api.OK, 0}, {api.TempName, 0, "", api.OK, 0},
	} {
		f := volume(t)
		m := api.Member{Name: c.name, Size: c.size, Data: "not looked at"}
		if data, e := fetch.Member(f, m); data != c.data || e != c.code || f.Calls() != c.calls {
			t.Errorf("Member(%q, %d) = %q, %d by %d calls, want %q, %d by %d", c.name, c.size, data, e, f.Calls(), c.data, c.code, c.calls)
		}
	}
}

// A fault comes through as its code.
func TestStruck(t *testing.T) {
	for kind, code := range map[int]api.Errno{api.FaultIO: api.ErrIO, api.FaultShort: api.ErrIO, api.FaultDown: api.ErrDown} {
		for _, name := range []string{"a", "no", "a/b"} {
			f := volume(t)
			f.Arm([]api.Fault{{At: 1, Kind: kind}, {At: 2, Kind: kind}})
			what := fmt.Sprintf("fault %d, %q", kind, name)
			if data, e := fetch.File(f, name); data != "" || e != code {
				t.Errorf("%s: File = %q, %d", what, data, e)
			}
			if data, e := fetch.Member(f, api.Member{Name: name, Size: 5}); data != "" || e != code {
				t.Errorf("%s: Member = %q, %d", what, data, e)
			}
		}
	}
}
