package vfs_test

import (
	"fmt"
	"math"
	"testing"

	"shelf/api"
	"shelf/vfs"
)

// act is a counted call on the volume that stage makes, and the name that its error bears.
type act struct {
	op   string
	name string
	do   func(f *vfs.FS, h *vfs.File) (string, error) // what it answers beside the error, as a text; empty: zero values
}

// zero is the empty text for a zero value.
func zero[T comparable](v T) string {
	var none T
	if v == none {
		return ""
	}
	return fmt.Sprint(v)
}

// acts are all the counted calls, each of them one that changes or answers something.
func acts() []act {
	return []act{
		{"read", "a", func(f *vfs.FS, h *vfs.File) (string, error) { return f.ReadFile("a") }},
		{"stat", "a", func(f *vfs.FS, h *vfs.File) (string, error) { i, err := f.Stat("a"); return zero(i), err }},
		{"list", "", func(f *vfs.FS, h *vfs.File) (string, error) {
			l, err := f.List()
			if l == nil {
				return "", err
			}
			return fmt.Sprint(l), err
		}},
		{"create", "c", func(f *vfs.FS, h *vfs.File) (string, error) {
			k, err := f.Create("c", api.Meta{})
			if k == nil {
				return "", err
			}
			return k.Name(), err
		}},
		{"rename", "a", func(f *vfs.FS, h *vfs.File) (string, error) { return "", f.Rename("a", "b") }},
		{"remove", "a", func(f *vfs.FS, h *vfs.File) (string, error) { return "", f.Remove("a") }},
		{"syncdir", "", func(f *vfs.FS, h *vfs.File) (string, error) { return "", f.SyncDir() }},
		{"write", "b", func(f *vfs.FS, h *vfs.File) (string, error) { n, err := h.Write("more"); return zero(n), err }},
		{"sync", "b", func(f *vfs.FS, h *vfs.File) (string, error) { return "", h.Sync() }},
	}
}

// stage makes a volume with a durable file "a" and a file "b" that is not; the handle is b's.
func stage(t *testing.T) (*vfs.FS, *vfs.File) {
	t.Helper()
	f := vfs.New(100)
	a := mustCreate(t, f, "a", api.Meta{Date: 1})
	wantWrite(t, a, "one", 3, api.OK)
	wantErr(t, a.Sync(), "sync", "a", api.OK)
	wantErr(t, f.SyncDir(), "syncdir", "", api.OK)
	b := mustCreate(t, f, "b", api.Meta{Date: 2})
	wantWrite(t, b, "two", 3, api.OK)
	return f, b
}

// aftermath is all that can come of a volume that do made: as it is now, and behind a restart with each choice.
func aftermath(t *testing.T, do func(f *vfs.FS, h *vfs.File)) string {
	t.Helper()
	out := ""
	for dirOps := -1; dirOps < 5; dirOps++ {
		for cut := range 9 {
			f, h := stage(t)
			do(f, h)
			if dirOps >= 0 {
				f.Restart(dirOps, []int{cut})
			}
			out += fmt.Sprint(f.Down(), " ", tell(f))
		}
	}
	return out
}

// 4.5, 4.6: each kind of fault at each call: it does nothing, now and behind a restart, and answers zero values.
func TestStruckCallsDoNothing(t *testing.T) {
	idle := aftermath(t, func(f *vfs.FS, h *vfs.File) {})
	idleDown := aftermath(t, func(f *vfs.FS, h *vfs.File) {
		f.Arm([]api.Fault{{At: 1, Kind: api.FaultDown}})
		f.Stat("none")
	})
	for _, a := range acts() {
		for _, fault := range []struct {
			kind int
			e    api.Errno
			want string
		}{{api.FaultIO, api.ErrIO, idle}, {api.FaultShort, api.ErrIO, idle}, {api.FaultDown, api.ErrDown, idleDown}} {
			got := aftermath(t, func(f *vfs.FS, h *vfs.File) {
				f.Arm([]api.Fault{{At: 1, Kind: fault.kind}})
				rest, err := a.do(f, h)
				wantErr(t, err, a.op, a.name, fault.e)
				if rest != "" {
					t.Errorf("%s struck by %d: %q beside the error", a.op, fault.kind, rest)
				}
				wantCalls(t, f, 1)
				wantDown(t, f, fault.kind == api.FaultDown)
			})
			if got != fault.want {
				t.Errorf("%s struck by %d changed the volume", a.op, fault.kind)
			}
		}
	}
}

// 4.5: a FaultShort with bytes to write is as FaultIO at every call but Write.
func TestShortElsewhere(t *testing.T) {
	idle := aftermath(t, func(f *vfs.FS, h *vfs.File) {})
	for _, a := range acts() {
		if a.op == "write" {
			continue
		}
		got := aftermath(t, func(f *vfs.FS, h *vfs.File) {
			f.Arm([]api.Fault{{At: 1, Kind: api.FaultShort, N: 3}})
			rest, err := a.do(f, h)
			wantErr(t, err, a.op, a.name, api.ErrIO)
			if rest != "" {
				t.Errorf("%s struck by a FaultShort: %q beside the error", a.op, rest)
			}
		})
		if got != idle {
			t.Errorf("%s struck by a FaultShort changed the volume", a.op)
		}
	}
}

// 4.5: a fault strikes the call of its number alone, whichever call that is.
func TestFaultAtEachPlace(t *testing.T) {
	var list, last []act
	for _, a := range acts() {
		switch a.op {
		case "rename": // it gives up the handle's body
			last = append(last, a)
		case "remove": // it would find no file behind the Rename
		default:
			list = append(list, a)
		}
	}
	list = append(list, last...)
	for at := 1; at <= len(list)+1; at++ {
		for _, kind := range []int{api.FaultIO, api.FaultShort, api.FaultDown} {
			f, h := stage(t)
			f.Arm([]api.Fault{{At: at, Kind: kind}})
			for i, a := range list {
				_, err := a.do(f, h)
				wantErr(t, err, a.op, a.name, struckAt(i+1, at, kind))
				down := kind == api.FaultDown && i+1 >= at
				wantDown(t, f, down)
				if !down {
					wantCalls(t, f, i+1)
				} else {
					wantCalls(t, f, at)
				}
			}
		}
	}
}

// struckAt is why the call of number i is refused when a fault of this kind strikes the one of number at.
func struckAt(i, at, kind int) api.Errno {
	if kind == api.FaultDown && i >= at {
		return api.ErrDown
	}
	if i == at {
		return api.ErrIO
	}
	return api.OK
}

// 4.5: with the power off nothing is counted and nothing is done, until a restart.
func TestDownIsNotCounted(t *testing.T) {
	down := func(f *vfs.FS, h *vfs.File) {
		f.Arm([]api.Fault{{At: 2, Kind: api.FaultDown}})
		f.Stat("a")
		f.Stat("a")
	}
	want := aftermath(t, down)
	for _, a := range acts() {
		got := aftermath(t, func(f *vfs.FS, h *vfs.File) {
			down(f, h)
			for range 2 {
				rest, err := a.do(f, h)
				wantErr(t, err, a.op, a.name, api.ErrDown)
				if rest != "" {
					t.Errorf("%s with the power off: %q beside the error", a.op, rest)
				}
				wantCalls(t, f, 2)
			}
		})
		if got != want {
			t.Errorf("%s with the power off changed the volume", a.op)
		}
	}
}

// 4.5: no fault of the plan is met while the power is off, not even one that would be at the next count.
func TestDownComesAheadOfFaults(t *testing.T) {
	f, h := stage(t)
	f.Arm([]api.Fault{{At: 1, Kind: api.FaultDown}, {At: 2, Kind: api.FaultIO}})
	wantWrite(t, h, "x", 0, api.ErrDown)
	wantWrite(t, h, "x", 0, api.ErrDown)
	f.Arm([]api.Fault{{At: 1, Kind: api.FaultShort, N: 1}})
	wantWrite(t, h, "x", 0, api.ErrDown)
	wantCalls(t, f, 0)
}

// 4.5: the handle that is closed is told of first: not counted, with the power on and off.
func TestClosedComesFirst(t *testing.T) {
	f, h := stage(t)
	wantErr(t, h.Close(), "close", "b", api.OK)
	f.Arm([]api.Fault{{At: 1, Kind: api.FaultDown}})
	wantWrite(t, h, "x", 0, api.ErrClosed)
	wantErr(t, h.Sync(), "sync", "b", api.ErrClosed)
	wantCalls(t, f, 0)
	wantDown(t, f, false)
	f.List()
	wantDown(t, f, true)
	wantWrite(t, h, "x", 0, api.ErrClosed)
	wantErr(t, h.Sync(), "sync", "b", api.ErrClosed)
	wantErr(t, h.Close(), "close", "b", api.ErrClosed)
	wantCalls(t, f, 1)
}

// 4.5: a fault comes ahead of the disk's refusal.
func TestFaultsComeAheadOfTheDisk(t *testing.T) {
	f, h := stage(t)
	wantErr(t, f.Remove("b"), "remove", "b", api.OK)
	io := []api.Fault{{At: 1, Kind: api.FaultIO}}
	f.Arm(io)
	wantErr(t, f.Remove("/"), "remove", "/", api.ErrIO)
	f.Arm(io)
	wantErr(t, f.Rename("none", "x"), "rename", "none", api.ErrIO)
	f.Arm(io)
	wantWrite(t, h, "x", 0, api.ErrIO)
	f.Arm(io)
	wantErr(t, h.Sync(), "sync", "b", api.ErrIO)
	f.Arm([]api.Fault{{At: 1, Kind: api.FaultShort}})
	wantErr(t, h.Sync(), "sync", "b", api.ErrIO)
	f.Arm([]api.Fault{{At: 1, Kind: api.FaultShort}})
	wantWrite(t, h, "x", 0, api.ErrBody)
	f.Arm([]api.Fault{{At: 1, Kind: api.FaultShort, N: 1}})
	wantWrite(t, h, "x", 0, api.ErrBody)
	f.Arm([]api.Fault{{At: 1, Kind: api.FaultDown}})
	wantWrite(t, h, "x", 0, api.ErrDown)
}

// 4.5, 4.6: how much a Write that is cut short writes.
func TestShortWrites(t *testing.T) {
	for _, c := range []struct {
		n    int
		data string
		want int
		e    api.Errno
	}{
		{3, "world", 3, api.ErrIO}, {0, "world", 0, api.ErrIO}, {1, "world", 1, api.ErrIO},
		{4, "world", 4, api.ErrIO}, {5, "world", 5, api.ErrIO}, {6, "world", 5, api.ErrIO},
		{math.MaxInt, "world", 5, api.ErrIO}, {-1, "world", 0, api.ErrIO}, {math.MinInt, "world", 0, api.ErrIO},
		{0, "", 0, api.ErrIO}, {9, "", 0, api.ErrIO}, {-9, "", 0, api.ErrIO},
		{7, "1234567890", 7, api.ErrIO}, {8, "1234567890", 0, api.ErrFull}, {99, "1234567890", 0, api.ErrFull},
		{0, "1234567890", 0, api.ErrIO}, {1, "\xe2\x82\xac", 1, api.ErrIO},
	} {
		f := vfs.New(10)
		h := mustCreate(t, f, "a", api.Meta{})
		wantWrite(t, h, "old", 3, api.OK)
		f.Arm([]api.Fault{{At: 1, Kind: api.FaultShort, N: c.n}})
		wantWrite(t, h, c.data, c.want, c.e)
		wantCalls(t, f, 1)
		wantDown(t, f, false)
		wantData(t, f, "a", "old"+c.data[:c.want])
		f.Restart(1, []int{math.MaxInt})
		wantData(t, f, "a", "old"+c.data[:c.want])
	}
}

// 4.5: what a Write that is cut short writes is loose.
func TestShortWritesAreLoose(t *testing.T) {
	f, h := stage(t)
	wantErr(t, h.Sync(), "sync", "b", api.OK)
	f.Arm([]api.Fault{{At: 1, Kind: api.FaultShort, N: 3}})
	wantWrite(t, h, "more", 3, api.ErrIO)
	f.Restart(1, []int{0, 2})
	wantData(t, f, "b", "twomo")
}

// 4.5: which fault strikes.
func TestWhichFaultStrikes(t *testing.T) {
	const read, short, down = api.FaultIO, api.FaultShort, api.FaultDown
	for i, c := range []struct {
		plan []api.Fault
		want []api.Errno // of three calls, one after the other
	}{
		{nil, []api.Errno{0, 0, 0}},
		{[]api.Fault{{At: 1, Kind: read}}, []api.Errno{api.ErrIO, 0, 0}},
		{[]api.Fault{{At: 3, Kind: read}, {At: 1, Kind: short}}, []api.Errno{api.ErrIO, 0, api.ErrIO}},
		{[]api.Fault{{At: 2, Kind: read}, {At: 2, Kind: down}}, []api.Errno{0, api.ErrIO, 0}},
		{[]api.Fault{{At: 2, Kind: down}, {At: 2, Kind: read}}, []api.Errno{0, api.ErrDown, api.ErrDown}},
		{[]api.Fault{{At: 1, Kind: 0}, {At: 1, Kind: down}}, []api.Errno{0, 0, 0}},
		{[]api.Fault{{At: 1, Kind: 4}, {At: 1, Kind: read}}, []api.Errno{0, 0, 0}},
		{[]api.Fault{{At: 1, Kind: -1}, {At: 1, Kind: read}, {At: 2, Kind: read}}, []api.Errno{0, api.ErrIO, 0}},
		{[]api.Fault{{At: 2, Kind: math.MaxInt}, {At: 1, Kind: read}, {At: 1, Kind: down}, {At: 2, Kind: down}}, []api.Errno{api.ErrIO, 0, 0}},
		{[]api.Fault{{At: 0, Kind: down}, {At: -1, Kind: down}, {At: math.MinInt, Kind: down}}, []api.Errno{0, 0, 0}},
		{[]api.Fault{{At: 4, Kind: down}, {At: math.MaxInt, Kind: down}}, []api.Errno{0, 0, 0}},
		{[]api.Fault{{}, {At: 1, Kind: read}}, []api.Errno{api.ErrIO, 0, 0}},
	} {
		f, _ := stage(t)
		for range 2 { // the second Arm of the same plan strikes as the first did
			f.Arm(c.plan)
			for _, e := range c.want {
				_, err := f.ReadFile("a")
				wantErr(t, err, "read", "a", e)
			}
			if f.Down() {
				f.Restart(0, nil)
			}
			if t.Failed() {
				t.Fatalf("plan %d: %v", i, c.plan)
			}
		}
	}
}

// 4.2
func TestArmCopies(t *testing.T) {
	f, _ := stage(t)
	plan := make([]api.Fault, 2, 4)
	plan[0] = api.Fault{At: 1, Kind: api.FaultIO}
	plan[1] = api.Fault{At: 2, Kind: api.FaultShort}
	spare := plan[:4]
	spare[2] = api.Fault{At: 3, Kind: api.FaultDown}
	f.Arm(plan)
	if plan[0] != (api.Fault{At: 1, Kind: api.FaultIO}) || plan[1] != (api.Fault{At: 2, Kind: api.FaultShort}) || spare[2] != (api.Fault{At: 3, Kind: api.FaultDown}) || spare[3] != (api.Fault{}) {
		t.Errorf("Arm changes the plan: %v", spare)
	}
	plan[0] = api.Fault{At: 3, Kind: api.FaultDown}
	plan[1].Kind = api.FaultDown
	for _, e := range []api.Errno{api.ErrIO, api.ErrIO, api.OK, api.OK} {
		_, err := f.Stat("a")
		wantErr(t, err, "stat", "a", e)
	}
}

// 4.2: a new plan takes the old one's place, whether or not it was reached.
func TestArmReplaces(t *testing.T) {
	f, h := stage(t)
	f.Arm([]api.Fault{{At: 1, Kind: api.FaultIO}, {At: 2, Kind: api.FaultIO}})
	f.Arm([]api.Fault{{At: 2, Kind: api.FaultShort, N: 1}})
	wantCalls(t, f, 0)
	wantWrite(t, h, "xy", 2, api.OK)
	wantWrite(t, h, "xy", 1, api.ErrIO)
	f.Arm(nil)
	wantCalls(t, f, 0)
	for range 3 {
		wantErr(t, h.Sync(), "sync", "b", api.OK)
	}
	wantCalls(t, f, 3)
	wantData(t, f, "b", "twoxyx")
}

// 4.2: a power that is off stays off, and the count is 0.
func TestArmLeavesThePower(t *testing.T) {
	f, h := stage(t)
	f.Arm([]api.Fault{{At: 1, Kind: api.FaultDown}})
	f.List()
	wantDown(t, f, true)
	wantCalls(t, f, 1)
	f.Arm(nil)
	wantDown(t, f, true)
	wantCalls(t, f, 0)
	wantErr(t, h.Sync(), "sync", "b", api.ErrDown)
	wantCalls(t, f, 0)
}
