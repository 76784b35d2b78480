package commit_test

import (
	"fmt"
	"strings"
	"testing"

	"shelf/api"
	"shelf/commit"
	"shelf/vfs"
)

// noNames are names that no file can have, each for one reason at one place.
func noNames() []string {
	list := []string{"", "/", "\x00", "a/b", "/a", "a/", "a\x00b", "\x00a", "a\x00", "//", "a/\x00",
		temp + "/", "/" + temp, temp + "\x00", "\xff/", "\xe2\x82/", "\xe2\x82\x00"}
	for _, n := range []int{1, 2, 64, 1000, 1 << 16} {
		list = append(list, strings.Repeat("n", api.MaxFileName+n))
	}
	list = append(list, strings.Repeat("\u20ac", 21)+"nn", strings.Repeat("\u00e4", 33)) // bytes are counted, not runes
	long := strings.Repeat("n", api.MaxFileName)
	for i := range len(long) {
		list = append(list, long[:i]+"/"+long[i+1:], long[:i]+"\x00"+long[i+1:])
	}
	return list
}

// wantRefused: is a Replace of this name refused ahead of any call?
func wantRefused(t *testing.T, f *vfs.FS, name string, e api.Errno) {
	t.Helper()
	for _, data := range []string{"", "new", filled(2000)} {
		calls, down := f.Calls(), f.Down()
		wantErr(t, "16.2", commit.Replace(f, name, data, newMeta), "replace", name, e)
		wantCalls(t, "16.2", f, calls)
		wantDown(t, "16.2", f, down)
	}
}

// 16.2: the tool's own file and what is no name, with the power on: nothing is called, so no fault strikes and all is as it was.
func TestRefusedNames(t *testing.T) {
	for _, list := range []files{{"a": old("old")}, {"a": old("old"), temp: old("left")}} {
		f := durable(t, 1000, list)
		f.Arm([]api.Fault{{At: 1, Kind: api.FaultDown}})
		wantRefused(t, f, temp, api.ErrReserved)
		for _, name := range noNames() {
			wantRefused(t, f, name, api.ErrFileName)
		}
		wantFiles(t, "16.2", f, list)
	}
}

// 16.2: with the power off the answer is the same; a good name is refused by the first call.
func TestRefusedNamesDown(t *testing.T) {
	f := durable(t, 1000, files{"a": old("old")})
	f.Arm([]api.Fault{{At: 1, Kind: api.FaultDown}})
	f.SyncDir()
	wantRefused(t, f, temp, api.ErrReserved)
	for _, name := range noNames() {
		wantRefused(t, f, name, api.ErrFileName)
	}
	wantErr(t, "with the power off", commit.Replace(f, "a", "new", newMeta), "syncdir", "", api.ErrDown)
	wantCalls(t, "with the power off", f, 1)
	f.Restart(0, nil)
	wantFiles(t, "behind the restart", f, files{"a": old("old")})
}

// 16.2: nothing that was pending is settled by a Replace that is refused for its name.
func TestRefusedNamesLeavePending(t *testing.T) {
	for _, name := range []string{temp, "", "a/b"} {
		f := vfs.New(100)
		put(t, f, "b", old("pending"))
		if err := commit.Replace(f, name, "new", newMeta); err == nil {
			t.Errorf("Replace(%q) is not refused", name)
		}
		f.Restart(0, nil)
		wantFiles(t, "16.2", f, files{})
	}
}

// 16.2: every other name is one.
func TestGoodNames(t *testing.T) {
	list := []string{".", "..", " ", "ar.tmp", "ar.tmp~~", "AR.TMP~", " ar.tmp~", "r.tmp~", "a\\b", "\xff\xfe", "\xe2\x82", "\u2044",
		strings.Repeat("n", api.MaxFileName), strings.Repeat("\xff", api.MaxFileName), strings.Repeat("n", api.MaxFileName-1), strings.Repeat("\u20ac", 21) + "n"}
	for b := range 256 {
		if b != '/' && b != 0 {
			list = append(list, string([]byte{byte(b)}))
		}
	}
	for _, name := range list {
		what := fmt.Sprintf("a Replace of %q", name)
		f := durable(t, 100, files{"other": old("o")})
		wantErr(t, what, commit.Replace(f, name, "new", newMeta), "", "", api.OK)
		wantFiles(t, what, f, files{"other": old("o"), name: fresh("new")})
	}
}
