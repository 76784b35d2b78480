package vfs_test

import (
	"fmt"
	"math/rand"
	"testing"

	"shelf/api"
	"shelf/disk"
	"shelf/vfs"
)

// model is the volume as the chapter tells it, step by step, on a disk of its own.
type model struct {
	d     *disk.Disk
	plan  []api.Fault
	count int
	down  bool
}

// handle is a handle of the model beside the one of the volume.
type handle struct {
	file   *vfs.File
	name   string
	body   int
	closed bool
}

// begin is what 4.5 says of a call: the kind of the fault that strikes it and its N, and the refusal.
func (m *model) begin() (kind, n int, e api.Errno) {
	if m.down {
		return 0, 0, api.ErrDown
	}
	m.count++
	for _, fault := range m.plan {
		if fault.At != m.count {
			continue
		}
		switch fault.Kind {
		case api.FaultIO, api.FaultShort:
			return fault.Kind, fault.N, api.ErrIO
		case api.FaultDown:
			m.down = true
			return fault.Kind, 0, api.ErrDown
		}
		return 0, 0, api.OK
	}
	return 0, 0, api.OK
}

// call is a call without a handle: what the disk does is done unless a fault strikes.
func (m *model) call(do func() (string, api.Errno)) (string, api.Errno) {
	if _, _, e := m.begin(); e != api.OK {
		return "", e
	}
	return do()
}

func (m *model) write(h *handle, data string) (int, api.Errno) {
	if h.closed {
		return 0, api.ErrClosed
	}
	kind, n, e := m.begin()
	if e != api.OK && kind != api.FaultShort {
		return 0, e
	}
	if kind == api.FaultShort {
		data = data[:min(max(n, 0), len(data))]
	}
	if refused := m.d.Append(h.body, data); refused != api.OK {
		return 0, refused
	}
	return len(data), e
}

// game is a volume and its model, which are given the same calls.
type game struct {
	t       *testing.T
	r       *rand.Rand
	f       *vfs.FS
	m       *model
	handles []*handle
}

func (g *game) name() string {
	return []string{"a", "b", "c", "d", "", "x/y"}[min(g.r.Intn(14)/2, 5)]
}

func (g *game) plan() []api.Fault {
	var plan []api.Fault
	for range g.r.Intn(4) {
		plan = append(plan, api.Fault{At: g.r.Intn(14) - 1, Kind: g.r.Intn(5), N: g.r.Intn(9) - 2})
	}
	return plan
}

// files plays one of the volume's own calls.
func (g *game) files(kind int) {
	name, to := g.name(), g.name()
	var got, want string
	var err error
	var e api.Errno
	op := ""
	switch kind {
	case 0:
		op = "read"
		got, err = g.f.ReadFile(name)
		want, e = g.m.call(func() (string, api.Errno) {
			_, body, e := g.m.d.Find(name)
			if e != api.OK {
				return "", e
			}
			return g.m.d.Read(body)
		})
	case 1:
		op = "stat"
		var info api.Info
		info, err = g.f.Stat(name)
		got = zero(info)
		want, e = g.m.call(func() (string, api.Errno) { i, _, e := g.m.d.Find(name); return zero(i), e })
	case 2:
		op = "rename"
		err = g.f.Rename(name, to)
		_, e = g.m.call(func() (string, api.Errno) { return "", g.m.d.Rename(name, to) })
	case 3:
		op = "remove"
		err = g.f.Remove(name)
		_, e = g.m.call(func() (string, api.Errno) { return "", g.m.d.Remove(name) })
	}
	wantErr(g.t, err, op, name, e)
	if got != want {
		g.t.Errorf("%s %q: %q, want %q", op, name, got, want)
	}
}

// directory plays List or SyncDir.
func (g *game) directory(kind int) {
	if kind == 0 {
		names, err := g.f.List()
		want, e := g.m.call(func() (string, api.Errno) { return fmt.Sprint(g.m.d.Names()), api.OK })
		wantErr(g.t, err, "list", "", e)
		if e == api.OK && fmt.Sprint(names) != want || e != api.OK && names != nil {
			g.t.Errorf("List() = %q, want %s", names, want)
		}
		return
	}
	err := g.f.SyncDir()
	_, e := g.m.call(func() (string, api.Errno) { g.m.d.SyncDir(); return "", api.OK })
	wantErr(g.t, err, "syncdir", "", e)
}

// create plays a Create, and keeps the handle.
func (g *game) create() {
	name, meta := g.name(), api.Meta{Date: g.r.Intn(100)}
	file, err := g.f.Create(name, meta)
	body := 0
	_, e := g.m.call(func() (string, api.Errno) {
		var e api.Errno
		body, e = g.m.d.Create(name, meta)
		return "", e
	})
	wantErr(g.t, err, "create", name, e)
	if (file != nil) != (e == api.OK) {
		g.t.Fatalf("Create(%q): handle %v with %v", name, file, e)
	}
	if file != nil {
		g.handles = append(g.handles, &handle{file: file, name: name, body: body})
	}
}

// handled plays a call of a handle.
func (g *game) handled(kind int) {
	if len(g.handles) == 0 {
		return
	}
	h := g.handles[max(len(g.handles)-1-g.r.Intn(6), 0)]
	switch kind {
	case 0:
		data := "0123456789"[:g.r.Intn(8)]
		n, err := h.file.Write(data)
		want, e := g.m.write(h, data)
		wantErr(g.t, err, "write", h.name, e)
		if n != want {
			g.t.Errorf("Write(%q) = %d, want %d", data, n, want)
		}
	case 1:
		err, e := h.file.Sync(), api.ErrClosed
		if !h.closed {
			_, e = g.m.call(func() (string, api.Errno) { return "", g.m.d.Sync(h.body) })
		}
		wantErr(g.t, err, "sync", h.name, e)
	case 2:
		err, e := h.file.Close(), api.OK
		if h.closed {
			e = api.ErrClosed
		}
		h.closed = true
		wantErr(g.t, err, "close", h.name, e)
	}
	if h.file.Name() != h.name {
		g.t.Errorf("Name() = %q, want %q", h.file.Name(), h.name)
	}
}

// power plays an Arm or a Restart.
func (g *game) power(kind int) {
	if kind > 0 {
		plan := g.plan()
		g.f.Arm(plan)
		g.m.plan, g.m.count = append([]api.Fault{}, plan...), 0
		clear(plan)
		return
	}
	dirOps, cuts := g.r.Intn(6)-1, []int{g.r.Intn(8) - 1, g.r.Intn(8) - 1}[:g.r.Intn(3)]
	g.f.Restart(dirOps, cuts)
	g.m.d.Crash(dirOps, cuts)
	g.m.plan, g.m.count, g.m.down = nil, 0, false
	for _, h := range g.handles {
		h.closed = true
	}
}

func (g *game) step() {
	switch k := g.r.Intn(30); {
	case k < 8:
		g.files(k % 4)
	case k < 11:
		g.directory(k % 2)
	case k < 16:
		g.create()
	case k < 23:
		g.handled(0)
	case k < 27:
		g.handled(1)
	case k == 27:
		g.handled(2)
	default:
		g.power(g.r.Intn(3))
	}
	wantCalls(g.t, g.f, g.m.count)
	wantDown(g.t, g.f, g.m.down)
}

// All promises at once: chance calls, against the chapter's own words on a disk.
func TestAgainstModel(t *testing.T) {
	for seed := range int64(400) {
		g := &game{t: t, r: rand.New(rand.NewSource(seed)), f: vfs.New(20), m: &model{d: disk.New(20)}}
		for step := range 150 {
			g.step()
			if t.Failed() {
				t.Fatalf("seed %d, step %d", seed, step)
			}
		}
	}
}
