package vfs

import (
	"shelf/api"
	"shelf/disk"
)

// device is what a volume can do. Crash alone is no call of the tool's: it never fails.
type device interface {
	ReadFile(name string) (string, api.Errno)
	Stat(name string) (api.Info, api.Errno)
	List() ([]string, api.Errno)
	Create(name string, meta api.Meta) (int, api.Errno)
	Rename(old, to string) api.Errno
	Remove(name string) api.Errno
	SyncDir() api.Errno
	Write(body int, data string) (int, api.Errno)
	Sync(body int) api.Errno
	Crash(dirOps int, cuts []int)
}

// volume is a disk as a device: what the disk does just so is promoted from it.
type volume struct{ *disk.Disk }

// ReadFile answers a file's bytes.
func (v volume) ReadFile(name string) (string, api.Errno) {
	_, body, e := v.Find(name)
	if e != api.OK {
		return "", e
	}
	return v.Read(body)
}

// Stat tells of a file.
func (v volume) Stat(name string) (api.Info, api.Errno) {
	info, _, e := v.Find(name)
	return info, e
}

// List tells the names of all files. The disk cannot refuse it, a device around it can.
func (v volume) List() ([]string, api.Errno) { return v.Names(), api.OK }

// SyncDir makes the directory durable. The disk cannot refuse it, a device around it can.
func (v volume) SyncDir() api.Errno {
	v.Disk.SyncDir()
	return api.OK
}

// Write adds data behind a body's bytes. The disk adds all or nothing; the count is there for a device around it that stops half-way.
func (v volume) Write(body int, data string) (int, api.Errno) {
	if e := v.Append(body, data); e != api.OK {
		return 0, e
	}
	return len(data), api.OK
}

// device is what the volume's calls and its handles go through. A volume that New did not make is one for no bytes, so that it does not panic.
func (f *FS) device() device {
	if f.line.device == nil {
		f.line.device = volume{disk.New(0)}
	}
	return &f.line
}

// closed: may the handle not be used any more?
func (h *File) closed() bool { return h.fs == nil || h.start != h.fs.starts }

// failed is a call's error: nil itself where there is no reason, for a nil pointer in an error would not be nil.
func failed(op, name string, e api.Errno) error {
	if e == api.OK {
		return nil
	}
	return &api.FileError{Op: op, Name: name, Err: e}
}
