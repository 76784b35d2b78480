package disk_test

import (
	"math"
	"testing"

	"shelf/api"
	"shelf/disk"
)

// The chapter's table, row by row.
func TestTable(t *testing.T) {
	d := disk.New(10)
	wantBody(t, d, "a", 1)
	wantErrno(t, "Append", d.Append(1, "12345678"), api.OK)
	wantErrno(t, "Append above 10", d.Append(1, "123"), api.ErrFull)
	wantErrno(t, "Sync", d.Sync(1), api.OK)
	wantErrno(t, "Append", d.Append(1, "9"), api.OK)
	wantFile(t, d, "a", 1, "123456789", 1)
	wantState(t, d, 9, 1, "a")
	d.SyncDir()
	wantState(t, d, 9, 0, "a")
	wantBody(t, d, "b", 2)
	wantErrno(t, "Rename", d.Rename("b", "a"), api.OK)
	wantGone(t, d, 1)
	wantState(t, d, 0, 2, "a")
	wantNoBody(t, d, "a/b", api.ErrFileName)
	wantErrno(t, "Append", d.Append(2, "xyz"), api.OK)
	d.Crash(1, nil)
	wantState(t, d, 8, 0, "a", "b")
	wantFile(t, d, "a", 1, "12345678", 0)
	wantFile(t, d, "b", 2, "", 0)
	wantBody(t, d, "c", 3)
	wantErrno(t, "Append", d.Append(2, "12"), api.OK)
	wantErrno(t, "Append above 10", d.Append(3, "1"), api.ErrFull)
}

// replaced is the chapter's second volume: new bytes are renamed over old ones.
func replaced(t *testing.T, synced bool) *disk.Disk {
	t.Helper()
	d := disk.New(8)
	file(t, d, "a", "old", 3)
	d.SyncDir()
	durable := 0
	if synced {
		durable = 5
	}
	file(t, d, "t", "newer", durable)
	wantErrno(t, "Rename", d.Rename("t", "a"), api.OK)
	return d
}

// The chapter's second example: the old bytes or the new ones.
func TestReplaced(t *testing.T) {
	for _, cuts := range [][]int{nil, {}, {0}, {-1, 4}, {math.MaxInt}} {
		for _, k := range []int{0, -1, math.MinInt} {
			d := replaced(t, true)
			d.Crash(k, cuts)
			wantState(t, d, 3, 0, "a")
			wantFile(t, d, "a", 1, "old", 0)
			wantGone(t, d, 2)
		}
		d := replaced(t, true)
		d.Crash(1, cuts)
		wantState(t, d, 8, 0, "a", "t")
		wantFile(t, d, "a", 1, "old", 0)
		wantFile(t, d, "t", 2, "newer", 0)
		for _, k := range []int{2, 3, math.MaxInt} {
			d := replaced(t, true)
			d.Crash(k, cuts)
			wantState(t, d, 5, 0, "a")
			wantFile(t, d, "a", 2, "newer", 0)
			wantGone(t, d, 1)
		}
	}
}

// Without the Sync the new name leads to any beginning of the new bytes; without the SyncDir the old file may be back.
func TestReplacedUnsynced(t *testing.T) {
	for n, want := range []string{"", "n", "ne", "new", "newe", "newer", "newer"} {
		d := replaced(t, false)
		d.Crash(2, []int{n})
		wantFile(t, d, "a", 2, want, 0)
	}
	d := replaced(t, false)
	d.Crash(1, []int{9, 2})
	wantFile(t, d, "a", 1, "old", 0)
	wantFile(t, d, "t", 2, "ne", 0)
	d = replaced(t, true)
	d.SyncDir()
	d.Crash(0, nil)
	wantState(t, d, 5, 0, "a")
	wantFile(t, d, "a", 2, "newer", 0)
}

// The chapter's third example: removed ahead of the other one's making.
func TestRoomUsedAnew(t *testing.T) {
	for k, names := range [][]string{{"a"}, {}, {"b"}} {
		d := disk.New(4)
		file(t, d, "a", "1234", 4)
		d.SyncDir()
		wantErrno(t, "Remove", d.Remove("a"), api.OK)
		file(t, d, "b", "5678", 4)
		d.Crash(k, []int{1})
		wantState(t, d, 4*len(names), 0, names...)
	}
}

// above is a volume for 4 bytes with two files of 4 bytes.
func above(t *testing.T) *disk.Disk {
	t.Helper()
	d := disk.New(4)
	file(t, d, "a", "1234", 4)
	wantBody(t, d, "b", 2)
	d.SyncDir()
	wantErrno(t, "Remove", d.Remove("a"), api.OK)
	wantErrno(t, "Append", d.Append(2, "5678"), api.OK)
	wantErrno(t, "Sync", d.Sync(2), api.OK)
	d.Crash(0, nil)
	return d
}

// 3.14
func TestAboveCapacity(t *testing.T) {
	d := above(t)
	wantState(t, d, 8, 0, "a", "b")
	wantFile(t, d, "a", 1, "1234", 0)
	wantFile(t, d, "b", 2, "5678", 0)
	wantErrno(t, "Append of nothing", d.Append(1, ""), api.OK)
	wantErrno(t, "Append of a byte", d.Append(1, "x"), api.ErrFull)
	wantErrno(t, "Sync", d.Sync(1), api.OK)
	wantBody(t, d, "c", 3)
	wantErrno(t, "Append of a byte", d.Append(3, "x"), api.ErrFull)
	wantErrno(t, "Remove", d.Remove("a"), api.OK)
	wantErrno(t, "Append of a byte where it is just full", d.Append(3, "x"), api.ErrFull)
	wantErrno(t, "Remove", d.Remove("b"), api.OK)
	wantErrno(t, "Append", d.Append(3, "wxyz"), api.OK)
	wantErrno(t, "Append of a byte", d.Append(3, "x"), api.ErrFull)
	d.Crash(1, []int{9})
	wantState(t, d, 12, 0, "a", "b", "c")
}

// 3.13: each number of pending changes that can be kept, with every sort of change.
func TestEachChange(t *testing.T) {
	want := [][]string{
		{"a 1", "b 2"},
		{"a 1", "b 2", "c 3"},
		{"b 2", "c 1"},
		{"b 4", "c 1"},
		{"c 1"},
		{"a 1"},
		{"a 1", "c 5"},
		{"a 5"},
		{},
		{"b 6"},
	}
	for k := -1; k <= len(want); k++ {
		d := disk.New(10)
		wantBody(t, d, "a", 1)
		wantBody(t, d, "b", 2)
		d.SyncDir()
		wantBody(t, d, "c", 3)
		wantErrno(t, "Rename", d.Rename("a", "c"), api.OK)
		wantBody(t, d, "b", 4)
		wantErrno(t, "Remove", d.Remove("b"), api.OK)
		wantErrno(t, "Rename", d.Rename("c", "a"), api.OK)
		wantErrno(t, "Rename", d.Rename("a", "a"), api.OK)
		wantBody(t, d, "c", 5)
		wantErrno(t, "Rename", d.Rename("c", "a"), api.OK)
		wantErrno(t, "Remove", d.Remove("a"), api.OK)
		wantBody(t, d, "b", 6)
		wantState(t, d, 0, 9, "b")
		d.Crash(k, nil)
		wantBodies(t, d, 6, want[min(max(k, 0), 9)])
		wantBody(t, d, "d", 7)
	}
}

// wantBodies: the directory has just these names, each written with its body's number behind a blank; every other body up to the last one is gone.
func wantBodies(t *testing.T, d *disk.Disk, last int, want []string) {
	t.Helper()
	names := make([]string, 0, len(want))
	there := map[int]bool{}
	for _, w := range want {
		body := int(w[2] - '0')
		names = append(names, w[:1])
		there[body] = true
		wantFile(t, d, w[:1], body, "", 0)
	}
	wantState(t, d, 0, 0, names...)
	for body := 1; body <= last; body++ {
		if !there[body] {
			wantGone(t, d, body)
		}
	}
}

// 3.13: the file of number j keeps cuts[j mod len(cuts)] of its loose bytes.
func TestCuts(t *testing.T) {
	rows := []struct {
		cuts []int
		a, b string
		c    string
	}{
		{nil, "", "01", "0123"},
		{[]int{}, "", "01", "0123"},
		{[]int{0}, "", "01", "0123"},
		{[]int{-1, math.MinInt}, "", "01", "0123"},
		{[]int{1}, "0", "012", "0123"},
		{[]int{3}, "012", "0123", "0123"},
		{[]int{4}, "0123", "0123", "0123"},
		{[]int{math.MaxInt}, "0123", "0123", "0123"},
		{[]int{2, 1}, "01", "012", "0123"},
		{[]int{-5, 9}, "", "0123", "0123"},
		{[]int{3, 0, 7, 1}, "012", "01", "0123"},
	}
	for _, r := range rows {
		d := disk.New(12)
		file(t, d, "c", "0123", 4)
		file(t, d, "b", "0123", 2)
		file(t, d, "a", "0123", 0)
		d.Crash(3, r.cuts)
		wantFile(t, d, "a", 3, r.a, 0)
		wantFile(t, d, "b", 2, r.b, 0)
		wantFile(t, d, "c", 1, r.c, 0)
		wantState(t, d, len(r.a+r.b+r.c), 0, "a", "b", "c")
	}
}

// 3.13: the files are numbered by the directory as it is behind the crash, and the list of cuts begins again.
func TestCutsOfWhatIsThere(t *testing.T) {
	d := disk.New(100)
	file(t, d, "b", "bbbb", 0)
	file(t, d, "c", "cccc", 0)
	file(t, d, "d", "dddd", 0)
	d.SyncDir()
	file(t, d, "a", "aaaa", 0)
	wantErrno(t, "Remove", d.Remove("b"), api.OK)
	cuts := []int{1, 3}
	d.Crash(0, cuts)
	wantFile(t, d, "b", 1, "b", 0)
	wantFile(t, d, "c", 2, "ccc", 0)
	wantFile(t, d, "d", 3, "d", 0)
	wantState(t, d, 5, 0, "b", "c", "d")
	if cuts[0] != 1 || cuts[1] != 3 {
		t.Errorf("cuts has changed: %d", cuts)
	}
}

// 3.3, 3.13: what was given up is cut as it was then, and back with its number; it grows on from there.
func TestBack(t *testing.T) {
	d := disk.New(20)
	file(t, d, "a", "abcdef", 2)
	d.SyncDir()
	wantErrno(t, "Remove", d.Remove("a"), api.OK)
	wantErrno(t, "Sync", d.Sync(1), api.ErrBody)
	wantErrno(t, "Append", d.Append(1, "g"), api.ErrBody)
	d.Crash(0, []int{3})
	wantFile(t, d, "a", 1, "abcde", 0)
	wantErrno(t, "Append", d.Append(1, "xy"), api.OK)
	wantFile(t, d, "a", 1, "abcdexy", 2)
	d.Crash(0, []int{1})
	wantFile(t, d, "a", 1, "abcdex", 0)
}

// 3.13: no later crash brings back what a crash or a SyncDir has let go.
func TestNotBack(t *testing.T) {
	d := disk.New(20)
	file(t, d, "a", "abc", 3)
	d.SyncDir()
	file(t, d, "b", "def", 3)
	wantErrno(t, "Remove", d.Remove("a"), api.OK)
	d.Crash(2, nil)
	wantState(t, d, 3, 0, "b")
	d.Crash(0, nil)
	wantState(t, d, 3, 0, "b")
	wantGone(t, d, 1)
	wantErrno(t, "Remove", d.Remove("b"), api.OK)
	d.SyncDir()
	d.Crash(0, nil)
	wantState(t, d, 0, 0)
	wantGone(t, d, 2)
	wantBody(t, d, "a", 3)
	d.Crash(0, nil)
	wantState(t, d, 0, 0)
	d.Crash(1, nil)
	wantState(t, d, 0, 0)
	wantGone(t, d, 3)
}

// A second Crash right behind a first one changes nothing.
func TestTwoCrashes(t *testing.T) {
	for _, k := range []int{0, 1, 2} {
		d := replaced(t, false)
		d.Crash(k, []int{2})
		names, used := d.Names(), d.Used()
		for _, dirOps := range []int{-1, 0, 1, 2, 5} {
			d.Crash(dirOps, []int{0})
			d.Crash(dirOps, nil)
			wantState(t, d, used, 0, names...)
		}
	}
}

// SyncDir and a Sync of each file: no crash changes anything.
func TestAllDurable(t *testing.T) {
	d := replaced(t, false)
	file(t, d, "b", "x", 0)
	d.SyncDir()
	wantErrno(t, "Sync", d.Sync(2), api.OK)
	wantErrno(t, "Sync", d.Sync(3), api.OK)
	for _, dirOps := range []int{-1, 0, 1, 4, math.MaxInt} {
		d.Crash(dirOps, []int{0, -1})
		wantState(t, d, 6, 0, "a", "b")
		wantFile(t, d, "a", 2, "newer", 0)
		wantFile(t, d, "b", 3, "x", 0)
		wantGone(t, d, 1)
	}
}
