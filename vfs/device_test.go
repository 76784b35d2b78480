package vfs

import (
	"fmt"
	"slices"
	"testing"

	"shelf/api"
	"shelf/disk"
)

// noting is a device around another one that notes each act that comes through.
type noting struct {
	device
	acts []string
}

func (n *noting) note(what ...any) { n.acts = append(n.acts, fmt.Sprint(what...)) }

func (n *noting) ReadFile(name string) (string, api.Errno) {
	n.note("read ", name)
	return n.device.ReadFile(name)
}

func (n *noting) Stat(name string) (api.Info, api.Errno) {
	n.note("stat ", name)
	return n.device.Stat(name)
}

func (n *noting) List() ([]string, api.Errno) {
	n.note("list")
	return n.device.List()
}

func (n *noting) Create(name string, meta api.Meta) (int, api.Errno) {
	n.note("create ", name, " ", meta.Date)
	return n.device.Create(name, meta)
}

func (n *noting) Rename(old, to string) api.Errno {
	n.note("rename ", old, " ", to)
	return n.device.Rename(old, to)
}

func (n *noting) Remove(name string) api.Errno {
	n.note("remove ", name)
	return n.device.Remove(name)
}

func (n *noting) SyncDir() api.Errno {
	n.note("syncdir")
	return n.device.SyncDir()
}

func (n *noting) Write(body int, data string) (int, api.Errno) {
	n.note("write ", body, " ", data)
	return n.device.Write(body, data)
}

func (n *noting) Sync(body int) api.Errno {
	n.note("sync ", body)
	return n.device.Sync(body)
}

func (n *noting) Crash(dirOps int, cuts []int) {
	n.note("crash ", dirOps, " ", cuts)
	n.device.Crash(dirOps, cuts)
}

func (n *noting) want(t *testing.T, acts ...string) {
	t.Helper()
	if !slices.Equal(n.acts, acts) {
		t.Errorf("acts %q, want %q", n.acts, acts)
	}
	n.acts = nil
}

// The device below can be exchanged: each call is one act of it, and a call that is struck is none.
func TestCallsGoThroughTheDevice(t *testing.T) {
	below := &noting{device: volume{disk.New(100)}}
	f := &FS{line: failing{device: below}}
	h, _ := f.Create("a", api.Meta{Date: 7})
	h.Write("hello")
	h.Sync()
	f.ReadFile("a")
	f.Stat("a")
	f.List()
	f.Rename("a", "b")
	f.SyncDir()
	f.Remove("b")
	below.want(t, "create a 7", "write 1 hello", "sync 1", "read a", "stat a", "list", "rename a b", "syncdir", "remove b")
	f.Arm([]api.Fault{{At: 1, Kind: api.FaultIO}, {At: 2, Kind: api.FaultShort, N: 2}, {At: 3, Kind: api.FaultShort}, {At: 4, Kind: api.FaultDown}})
	f.List()
	h.Write("hello")
	h.Sync()
	h.Write("hello")
	h.Write("hello")
	f.SyncDir()
	below.want(t, "write 1 he")
	f.Restart(3, []int{4, 5})
	h.Write("hello")
	h.Sync()
	h.Close()
	f.Calls()
	f.Down()
	below.want(t, "crash 3 [4 5]")
}

// Rule 8 of the language: a plan's faults that can never strike are not kept, nor is a closed handle's volume.
func TestNoMoreIsKeptThanNeeded(t *testing.T) {
	f := New(10)
	f.Arm([]api.Fault{{At: 0, Kind: 1}, {At: -1, Kind: 1}, {At: 2, Kind: 1}, {At: 2, Kind: 3}})
	if len(f.line.plan) != 1 {
		t.Errorf("%d faults are kept, want 1", len(f.line.plan))
	}
	f.Restart(0, nil)
	if len(f.line.plan) != 0 {
		t.Errorf("%d faults are kept behind a restart", len(f.line.plan))
	}
	h, _ := f.Create("a", api.Meta{})
	h.Close()
	if h.fs != nil {
		t.Error("a closed handle keeps the volume")
	}
}
