package disk

import (
	"maps"
	"strings"

	"shelf/api"
)

// change is one change of the directory: the name from is taken out, the name to leads to the body of this number. A text that is empty stands for no name, as no file can have it.
type change struct {
	from string
	to   string
	body int
}

// apply makes the change in a directory: as one step, for a crash keeps the whole of it or nothing.
func (c change) apply(dir map[string]int) {
	delete(dir, c.from)
	if c.to != "" {
		dir[c.to] = c.body
	}
}

// isName: may a file have this name?
func isName(name string) bool {
	return name != "" && len(name) <= api.MaxFileName && !strings.ContainsAny(name, "/\x00")
}

// makeMaps is called ahead of the first name, so that a Disk that New did not make is a volume for no bytes and does not panic.
func (d *Disk) makeMaps() {
	if d.dir != nil {
		return
	}
	d.dir = map[string]int{}
	d.safe = map[string]int{}
	d.there = map[int]*body{}
	d.kept = map[int]*body{}
}

// note makes a change now and keeps it for a crash to undo.
func (d *Disk) note(c change) {
	c.apply(d.dir)
	d.pending = append(d.pending, c)
}

// giveUp lays the body of a name, if there is one, aside for a crash to bring back. The name is left to the change that follows.
func (d *Disk) giveUp(name string) {
	number, ok := d.dir[name]
	if !ok {
		return
	}
	d.kept[number] = d.there[number]
	delete(d.there, number)
}

// settle makes the first count pending changes durable and forgets the others.
func (d *Disk) settle(count int) {
	for _, c := range d.pending[:count] {
		c.apply(d.safe)
	}
	d.pending = nil
}

// goBack makes the durable directory the one that is there, with its bodies, and lets go of every other body.
func (d *Disk) goBack() {
	d.dir = maps.Clone(d.safe)
	back := make(map[int]*body, len(d.dir))
	for _, number := range d.dir {
		if b, ok := d.there[number]; ok {
			back[number] = b
		} else {
			back[number] = d.kept[number]
		}
	}
	d.there = back
	clear(d.kept)
}
