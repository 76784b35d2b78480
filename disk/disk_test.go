package disk_test

import (
	"math"
	"slices"
	"strconv"
	"strings"
	"testing"

	"shelf/api"
	"shelf/disk"
)

var (
	someMeta  = api.Meta{Date: 7, UID: 1, GID: 2, Mode: 0o644}
	otherMeta = api.Meta{Date: math.MinInt, UID: -1, GID: math.MaxInt, Mode: 1 << 40}
)

// wantErrno: the call's answer.
func wantErrno(t *testing.T, call string, got, want api.Errno) {
	t.Helper()
	if got != want {
		t.Errorf("%s: %d (%v), want %d (%v)", call, got, got, want, want)
	}
}

// wantBody: a Create's answer.
func wantBody(t *testing.T, d *disk.Disk, name string, want int) {
	t.Helper()
	if body, e := d.Create(name, someMeta); body != want || e != api.OK {
		t.Fatalf("Create(%q): %d, %d, want %d, OK", name, body, e, want)
	}
}

// wantNoBody: a Create that is refused.
func wantNoBody(t *testing.T, d *disk.Disk, name string, want api.Errno) {
	t.Helper()
	if body, e := d.Create(name, someMeta); body != 0 || e != want {
		t.Errorf("Create(%q): %d, %d, want 0, %d", name, body, e, want)
	}
}

// wantFile: all that the questions tell of a file.
func wantFile(t *testing.T, d *disk.Disk, name string, body int, data string, loose int) {
	t.Helper()
	wantMeta(t, d, name, body, someMeta, len(data))
	if got, e := d.Read(body); got != data || e != api.OK {
		t.Errorf("Read(%d), %q: %q, %d, want %q, OK", body, name, got, e, data)
	}
	if got, e := d.Loose(body); got != loose || e != api.OK {
		t.Errorf("Loose(%d), %q: %d, %d, want %d, OK", body, name, got, e, loose)
	}
}

// wantMeta: what Find tells of a file.
func wantMeta(t *testing.T, d *disk.Disk, name string, body int, meta api.Meta, size int) {
	t.Helper()
	want := api.Info{Meta: meta, Name: name, Size: size}
	if info, number, e := d.Find(name); info != want || number != body || e != api.OK {
		t.Errorf("Find(%q): %+v, %d, %d, want %+v, %d, OK", name, info, number, e, want, body)
	}
}

// wantMissing: there is no file of this name, or it can have none.
func wantMissing(t *testing.T, d *disk.Disk, name string, want api.Errno) {
	t.Helper()
	if info, number, e := d.Find(name); info != (api.Info{}) || number != 0 || e != want {
		t.Errorf("Find(%q): %+v, %d, %d, want nothing, %d", name, info, number, e, want)
	}
}

// wantGone: every call refuses this body's number.
func wantGone(t *testing.T, d *disk.Disk, body int) {
	t.Helper()
	call := "(" + strconv.Itoa(body) + ")"
	wantErrno(t, "Append"+call, d.Append(body, "x"), api.ErrBody)
	wantErrno(t, "Append of nothing"+call, d.Append(body, ""), api.ErrBody)
	wantErrno(t, "Sync"+call, d.Sync(body), api.ErrBody)
	if data, e := d.Read(body); data != "" || e != api.ErrBody {
		t.Errorf("Read%s: %q, %d, want nothing, ErrBody", call, data, e)
	}
	if n, e := d.Loose(body); n != 0 || e != api.ErrBody {
		t.Errorf("Loose%s: %d, %d, want 0, ErrBody", call, n, e)
	}
}

// wantState: the names, the bytes in use and the changes that are pending.
func wantState(t *testing.T, d *disk.Disk, used, pending int, names ...string) {
	t.Helper()
	if got := d.Names(); !slices.Equal(got, names) {
		t.Errorf("Names: %q, want %q", got, names)
	}
	if d.Used() != used || d.Pending() != pending {
		t.Errorf("Used %d, Pending %d, want %d, %d", d.Used(), d.Pending(), used, pending)
	}
}

// file makes a file with these bytes, the first durable ones of them synced.
func file(t *testing.T, d *disk.Disk, name, data string, durable int) int {
	t.Helper()
	body, e := d.Create(name, someMeta)
	wantErrno(t, "Create "+name, e, api.OK)
	wantErrno(t, "Append to "+name, d.Append(body, data[:durable]), api.OK)
	wantErrno(t, "Sync of "+name, d.Sync(body), api.OK)
	wantErrno(t, "Append to "+name, d.Append(body, data[durable:]), api.OK)
	return body
}

// 3.6
func TestNew(t *testing.T) {
	for _, n := range []int{-1, math.MinInt, api.MaxCapacity + 1, math.MaxInt} {
		if disk.New(n) != nil {
			t.Errorf("New(%d) is not nil", n)
		}
	}
	for _, n := range []int{0, 1, api.MaxCapacity} {
		d := disk.New(n)
		if d == nil {
			t.Fatalf("New(%d) is nil", n)
		}
		wantState(t, d, 0, 0)
		wantGone(t, d, 1)
		wantMissing(t, d, "a", api.ErrMissing)
		wantErrno(t, "Remove", d.Remove("a"), api.ErrMissing)
		d.SyncDir()
		d.Crash(1, []int{1})
		wantState(t, d, 0, 0)
	}
}

// 3.6: a volume for 0 bytes.
func TestNoRoom(t *testing.T) {
	d := disk.New(0)
	wantBody(t, d, "a", 1)
	wantBody(t, d, "b", 2)
	wantErrno(t, "Append of nothing", d.Append(1, ""), api.OK)
	wantErrno(t, "Append of a byte", d.Append(1, "x"), api.ErrFull)
	wantState(t, d, 0, 2, "a", "b")
}

// A Disk that was not made by New does not panic (R1); it has no room.
func TestUnmade(t *testing.T) {
	var d disk.Disk
	wantState(t, &d, 0, 0)
	d.SyncDir()
	d.Crash(3, []int{3})
	wantErrno(t, "Remove", d.Remove("a"), api.ErrMissing)
	wantErrno(t, "Rename", d.Rename("a", "b"), api.ErrMissing)
	wantGone(t, &d, 1)
	wantBody(t, &d, "a", 1)
	wantErrno(t, "Append of a byte", d.Append(1, "x"), api.ErrFull)
	wantState(t, &d, 0, 1, "a")
}

// Two volumes know nothing of each other.
func TestTwoVolumes(t *testing.T) {
	one, two := disk.New(10), disk.New(10)
	file(t, one, "a", "123", 1)
	wantState(t, two, 0, 0)
	wantBody(t, two, "b", 1)
	two.Crash(0, nil)
	wantFile(t, one, "a", 1, "123", 2)
	wantState(t, one, 3, 1, "a")
}

// 3.1
func TestNames(t *testing.T) {
	var good, bad []string
	for b := range 256 {
		one := string([]byte{byte(b)})
		list := []string{one, one + "n", "n" + one, "n" + one + "n", "name.of.a.file" + one, "\xff\xfe" + one}
		if b == '/' || b == 0 {
			bad = append(bad, list...)
		} else {
			good = append(good, list...)
		}
	}
	long := strings.Repeat("\xff", api.MaxFileName)
	good = append(good, ".", "..", long, strings.Repeat("é", 32), "ar.tmp~")
	bad = append(bad, "", long+"x", strings.Repeat("é", 33), long[1:]+"/", strings.Repeat("n", 1000))
	for _, name := range good {
		d := disk.New(10)
		wantMissing(t, d, name, api.ErrMissing)
		wantErrno(t, "Remove", d.Remove(name), api.ErrMissing)
		wantErrno(t, "Rename", d.Rename(name, name), api.ErrMissing)
		wantBody(t, d, name, 1)
		wantFile(t, d, name, 1, "", 0)
		wantErrno(t, "Rename", d.Rename(name, "x"), api.OK)
		wantErrno(t, "Rename", d.Rename("x", name), api.OK)
		wantErrno(t, "Remove", d.Remove(name), api.OK)
	}
	d := disk.New(10)
	wantBody(t, d, "x", 1)
	for _, name := range bad {
		wantNoBody(t, d, name, api.ErrFileName)
		wantMissing(t, d, name, api.ErrFileName)
		wantErrno(t, "Remove", d.Remove(name), api.ErrFileName)
		for _, other := range []string{"x", "missing", name} {
			wantErrno(t, "Rename", d.Rename(name, other), api.ErrFileName)
			wantErrno(t, "Rename", d.Rename(other, name), api.ErrFileName)
		}
	}
	wantState(t, d, 0, 1, "x")
}

// 3.2, 3.12: any four numbers are kept as they are given, behind a rename and a crash too.
func TestMeta(t *testing.T) {
	d := disk.New(10)
	for i, meta := range []api.Meta{otherMeta, {}, someMeta} {
		if body, e := d.Create("a", meta); body != i+1 || e != api.OK {
			t.Fatalf("Create: %d, %d", body, e)
		}
		wantMeta(t, d, "a", i+1, meta, 0)
	}
	d.Crash(1, nil)
	wantMeta(t, d, "a", 1, otherMeta, 0)
	wantErrno(t, "Append", d.Append(1, "xy"), api.OK)
	wantErrno(t, "Rename", d.Rename("a", "b"), api.OK)
	wantMeta(t, d, "b", 1, otherMeta, 2)
	d.Crash(1, nil)
	wantMeta(t, d, "b", 1, otherMeta, 0)
}

// 3.2, 3.7: numbers go up by one; neither a refusal nor a crash disturbs the counting.
func TestNumbers(t *testing.T) {
	d := disk.New(10)
	wantBody(t, d, "a", 1)
	wantBody(t, d, "b", 2)
	wantNoBody(t, d, "", api.ErrFileName)
	wantBody(t, d, "a", 3)
	wantErrno(t, "Remove", d.Remove("a"), api.OK)
	wantBody(t, d, "a", 4)
	d.Crash(0, nil)
	wantState(t, d, 0, 0)
	wantBody(t, d, "a", 5)
	d.SyncDir()
	wantBody(t, d, "b", 6)
	d.Crash(0, nil)
	wantBody(t, d, "b", 7)
	wantFile(t, d, "a", 5, "", 0)
	for _, body := range []int{-1, 0, 1, 2, 3, 4, 6, 8, math.MinInt, math.MaxInt} {
		wantGone(t, d, body)
	}
}

// 3.3, 3.7: the directory is full; a name that is there can be taken anew all the same.
func TestMany(t *testing.T) {
	d := disk.New(10)
	for i := range api.MaxFiles {
		wantBody(t, d, "n"+strconv.Itoa(i), i+1)
	}
	wantNoBody(t, d, "x", api.ErrMany)
	wantNoBody(t, d, "x/", api.ErrFileName)
	wantBody(t, d, "n5", 65)
	wantErrno(t, "Rename", d.Rename("n6", "x"), api.OK)
	wantNoBody(t, d, "n6", api.ErrMany)
	if d.Pending() != 66 || len(d.Names()) != api.MaxFiles {
		t.Errorf("Pending %d, names %d, want 66, 64", d.Pending(), len(d.Names()))
	}
	wantErrno(t, "Rename", d.Rename("n7", "x"), api.OK)
	wantBody(t, d, "n6", 66)
	wantNoBody(t, d, "n7", api.ErrMany)
	wantErrno(t, "Remove", d.Remove("n0"), api.OK)
	wantBody(t, d, "n7", 67)
	d.Crash(66, nil)
	wantNoBody(t, d, "n6", api.ErrMany)
	wantFile(t, d, "x", 7, "", 0)
}

// 3.3: a body that is given up is refused, however it was given up.
func TestGivenUp(t *testing.T) {
	d := disk.New(100)
	file(t, d, "a", "aaa", 1)
	file(t, d, "b", "bbb", 1)
	file(t, d, "c", "ccc", 1)
	wantBody(t, d, "a", 4)
	wantGone(t, d, 1)
	wantErrno(t, "Rename", d.Rename("a", "b"), api.OK)
	wantGone(t, d, 2)
	wantErrno(t, "Remove", d.Remove("c"), api.OK)
	wantGone(t, d, 3)
	wantState(t, d, 0, 6, "b")
	wantFile(t, d, "b", 4, "", 0)
}

// 3.4: what counts as a change.
func TestPending(t *testing.T) {
	d := disk.New(4)
	wantBody(t, d, "a", 1)
	wantBody(t, d, "b", 2)
	wantErrno(t, "Rename to itself", d.Rename("a", "a"), api.OK)
	wantState(t, d, 0, 2, "a", "b")
	wantErrno(t, "Append", d.Append(1, "1234"), api.OK)
	wantErrno(t, "Sync", d.Sync(1), api.OK)
	wantErrno(t, "Append", d.Append(2, "5"), api.ErrFull)
	wantErrno(t, "Remove", d.Remove("c"), api.ErrMissing)
	wantErrno(t, "Rename", d.Rename("c", "a"), api.ErrMissing)
	wantErrno(t, "Rename", d.Rename("a", ""), api.ErrFileName)
	wantNoBody(t, d, "/", api.ErrFileName)
	wantState(t, d, 4, 2, "a", "b")
	wantFile(t, d, "a", 1, "1234", 0)
	wantErrno(t, "Rename", d.Rename("a", "b"), api.OK)
	wantErrno(t, "Remove", d.Remove("b"), api.OK)
	wantState(t, d, 0, 4)
	d.SyncDir()
	wantState(t, d, 0, 0)
	wantBody(t, d, "a", 3)
	wantState(t, d, 0, 1, "a")
	d.Crash(1, nil)
	wantState(t, d, 0, 0, "a")
}

// 3.5, 3.8: what is in use, and what has room beside it.
func TestRoom(t *testing.T) {
	d := disk.New(10)
	file(t, d, "a", "1234", 0)
	file(t, d, "b", "567", 3)
	wantErrno(t, "Append above", d.Append(1, "8901"), api.ErrFull)
	wantFile(t, d, "a", 1, "1234", 4)
	wantErrno(t, "Append up to the last byte", d.Append(1, "890"), api.OK)
	wantFile(t, d, "a", 1, "1234890", 7)
	wantState(t, d, 10, 2, "a", "b")
	wantErrno(t, "Append of nothing", d.Append(2, ""), api.OK)
	wantErrno(t, "Append of a byte", d.Append(2, "x"), api.ErrFull)
	wantErrno(t, "no body goes ahead of no room", d.Append(3, "x"), api.ErrBody)
	wantErrno(t, "Rename", d.Rename("b", "a"), api.OK)
	wantState(t, d, 3, 3, "a")
	wantErrno(t, "Append", d.Append(2, "8901234"), api.OK)
	wantErrno(t, "Remove", d.Remove("a"), api.OK)
	wantState(t, d, 0, 4)
	wantBody(t, d, "a", 3)
	wantErrno(t, "Append above", d.Append(3, "12345678901"), api.ErrFull)
	wantErrno(t, "Append", d.Append(3, "1234567890"), api.OK)
}

// 3.8: pieces stand behind each other, and any bytes do.
func TestPieces(t *testing.T) {
	d := disk.New(api.MaxCapacity)
	wantBody(t, d, "a", 1)
	want := ""
	for i := range 300 {
		piece := strings.Repeat(string([]byte{byte(i), 0, 0xff}), i%4)
		before, _ := d.Read(1)
		wantErrno(t, "Append", d.Append(1, piece), api.OK)
		if before != want {
			t.Fatalf("what was read has changed: %q, want %q", before, want)
		}
		want += piece
	}
	wantFile(t, d, "a", 1, want, len(want))
}

// 3.9, 3.10: a body's bytes and the directory are made durable each by itself.
func TestSync(t *testing.T) {
	d := disk.New(10)
	wantBody(t, d, "a", 1)
	wantErrno(t, "Append", d.Append(1, "abc"), api.OK)
	wantBody(t, d, "b", 2)
	wantErrno(t, "Append", d.Append(2, "xyz"), api.OK)
	wantErrno(t, "Sync", d.Sync(1), api.OK)
	wantFile(t, d, "a", 1, "abc", 0)
	wantFile(t, d, "b", 2, "xyz", 3)
	wantState(t, d, 6, 2, "a", "b")
	d.SyncDir()
	wantFile(t, d, "b", 2, "xyz", 3)
	wantErrno(t, "Append", d.Append(1, "d"), api.OK)
	wantFile(t, d, "a", 1, "abcd", 1)
	d.Crash(0, nil)
	wantFile(t, d, "a", 1, "abc", 0)
	wantFile(t, d, "b", 2, "", 0)
}

// 3.11
func TestRename(t *testing.T) {
	d := disk.New(10)
	file(t, d, "a", "12", 1)
	file(t, d, "b", "345", 1)
	wantErrno(t, "Rename to a new name", d.Rename("a", "c"), api.OK)
	wantState(t, d, 5, 3, "b", "c")
	wantMissing(t, d, "a", api.ErrMissing)
	wantFile(t, d, "c", 1, "12", 1)
	wantErrno(t, "Rename over a file", d.Rename("c", "b"), api.OK)
	wantState(t, d, 2, 4, "b")
	wantFile(t, d, "b", 1, "12", 1)
	wantGone(t, d, 2)
	wantErrno(t, "Rename to itself", d.Rename("b", "b"), api.OK)
	wantErrno(t, "Rename of what is not there to itself", d.Rename("a", "a"), api.ErrMissing)
	wantErrno(t, "Rename of what is not there", d.Rename("a", "b"), api.ErrMissing)
	wantErrno(t, "a bad name goes ahead of a missing file", d.Rename("a", "b/"), api.ErrFileName)
	wantState(t, d, 2, 4, "b")
	wantFile(t, d, "b", 1, "12", 1)
}

// 3.12: the names are in the order of their bytes, and the list is the caller's.
func TestOrder(t *testing.T) {
	d := disk.New(10)
	for i, name := range []string{"b", "\xff", "ab", "a", "é", "a\x01", "B", "a ", "\x01"} {
		wantBody(t, d, name, i+1)
	}
	want := []string{"\x01", "B", "a", "a\x01", "a ", "ab", "b", "é", "\xff"}
	wantState(t, d, 0, 9, want...)
	one, two := d.Names(), d.Names()
	for i := range one {
		one[i] = "x"
	}
	if !slices.Equal(two, want) {
		t.Errorf("two lists share memory: %q", two)
	}
	wantState(t, d, 0, 9, want...)
}
