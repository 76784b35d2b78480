package vfs

import "shelf/api"

// failing is a device around another one: it counts the calls and lets them fail by a plan. What is no call (Crash) goes to the device inside as it is.
type failing struct {
	device
	plan  map[int]api.Fault // by the number of the call that it strikes
	calls int               // how many were counted
	off   bool              // the power is off
}

// arm takes a new plan and counts from 0 again. Of several faults for one call only the first is ever asked for; those of no call are never reached.
func (d *failing) arm(plan []api.Fault) {
	d.calls = 0
	d.plan = map[int]api.Fault{}
	for _, fault := range plan {
		if _, taken := d.plan[fault.At]; !taken && fault.At > 0 {
			d.plan[fault.At] = fault
		}
	}
}

// count counts a call, and answers the fault that strikes it and why it is refused; OK: it goes on.
func (d *failing) count() (api.Fault, api.Errno) {
	if d.off {
		return api.Fault{}, api.ErrDown
	}
	d.calls++
	fault := d.plan[d.calls]
	switch fault.Kind {
	case api.FaultIO, api.FaultShort:
		return fault, api.ErrIO
	case api.FaultDown:
		d.off = true
		return fault, api.ErrDown
	}
	return api.Fault{}, api.OK
}

// refusal counts a call for which one fault is as good as another, and answers why it is refused.
func (d *failing) refusal() api.Errno {
	_, e := d.count()
	return e
}

// ReadFile answers a file's bytes.
func (d *failing) ReadFile(name string) (string, api.Errno) {
	if e := d.refusal(); e != api.OK {
		return "", e
	}
	return d.device.ReadFile(name)
}

// Stat tells of a file.
func (d *failing) Stat(name string) (api.Info, api.Errno) {
	if e := d.refusal(); e != api.OK {
		return api.Info{}, e
	}
	return d.device.Stat(name)
}

// List tells the names of all files.
func (d *failing) List() ([]string, api.Errno) {
	if e := d.refusal(); e != api.OK {
		return nil, e
	}
	return d.device.List()
}

// Create gives a name a new, empty body.
func (d *failing) Create(name string, meta api.Meta) (int, api.Errno) {
	if e := d.refusal(); e != api.OK {
		return 0, e
	}
	return d.device.Create(name, meta)
}

// Rename gives a body another name.
func (d *failing) Rename(old, to string) api.Errno {
	if e := d.refusal(); e != api.OK {
		return e
	}
	return d.device.Rename(old, to)
}

// Remove takes a name out of the directory.
func (d *failing) Remove(name string) api.Errno {
	if e := d.refusal(); e != api.OK {
		return e
	}
	return d.device.Remove(name)
}

// SyncDir makes the directory durable.
func (d *failing) SyncDir() api.Errno {
	if e := d.refusal(); e != api.OK {
		return e
	}
	return d.device.SyncDir()
}

// Sync makes a body's bytes durable.
func (d *failing) Sync(body int) api.Errno {
	if e := d.refusal(); e != api.OK {
		return e
	}
	return d.device.Sync(body)
}

// Write adds data behind a body's bytes; struck by a FaultShort, a beginning of them.
func (d *failing) Write(body int, data string) (int, api.Errno) {
	fault, e := d.count()
	if e == api.OK {
		return d.device.Write(body, data)
	}
	if fault.Kind != api.FaultShort {
		return 0, e
	}
	begun := data[:min(max(fault.N, 0), len(data))]
	n, refused := d.device.Write(body, begun)
	if refused != api.OK {
		return 0, refused
	}
	return n, e
}
