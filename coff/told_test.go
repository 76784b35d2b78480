package coff_test

import (
	"slices"
	"strings"

	"shelf/api"
	layer7 "shelf/head"
	"shelf/index"
	"shelf/names"
	"shelf/syms"
)

// The chapter's own words once more, as plainly as they can be written: slow, and each rule by itself.

// inOrder: is the pair not below the one ahead of it?
func inOrder(ahead, behind api.Entry) bool {
	return ahead.Name < behind.Name || ahead.Name == behind.Name && ahead.At <= behind.At
}

// putInOrder puts each pair ahead of the first one that it goes ahead of.
func putInOrder(l []api.Entry) []api.Entry {
	var all []api.Entry
	for _, x := range l {
		at := 0
		for at < len(all) && inOrder(all[at], x) {
			at++
		}
		all = slices.Insert(all, at, x)
	}
	return all
}

func toldSecond(at []int, l []api.Entry) (string, api.Errno) {
	for i := range at {
		if at[i] < 0 || i > 0 && at[i] <= at[i-1] {
			return "", api.ErrRange
		}
	}
	if len(at) > 65535 {
		return "", api.ErrFar
	}
	for _, place := range at {
		if place > 4294967295 {
			return "", api.ErrFar
		}
	}
	for _, x := range l {
		if x.Name == "" || strings.Contains(x.Name, "\x00") {
			return "", api.ErrName
		}
		if !slices.Contains(at, x.At) {
			return "", api.ErrIndex
		}
	}
	var numbers []int
	var inNames []string
	for _, x := range putInOrder(l) {
		numbers, inNames = append(numbers, slices.Index(at, x.At)+1), append(inNames, x.Name)
	}
	return second(at, numbers, inNames...), api.OK
}

// cursor is what is left of data that are read from their beginning on.
type cursor struct {
	rest string
	bad  bool
}

// number is the next one, the lowest byte first.
func (c *cursor) number(size int) int {
	if len(c.rest) < size {
		c.bad = true
	}
	if c.bad {
		return 0
	}
	v := 0
	for i := size - 1; i >= 0; i-- {
		v = 256*v + int(c.rest[i])
	}
	c.rest = c.rest[size:]
	return v
}

// name is the next one, up to its byte 0.
func (c *cursor) name() string {
	for i := range len(c.rest) {
		if c.rest[i] == 0 && i > 0 && !c.bad {
			name := c.rest[:i]
			c.rest = c.rest[i+1:]
			return name
		}
		if c.rest[i] == 0 {
			break
		}
	}
	c.bad = true
	return ""
}

func toldSplit(data string) ([]int, []api.Entry, api.Errno) {
	c := &cursor{rest: data}
	var at, numbers []int
	for count := c.number(4); count > 0 && !c.bad; count-- {
		at = append(at, c.number(4))
	}
	for count := c.number(4); count > 0 && !c.bad; count-- {
		numbers = append(numbers, c.number(2))
	}
	var l []api.Entry
	for _, number := range numbers {
		name := c.name()
		if c.bad || number == 0 || number > len(at) {
			return nil, nil, api.ErrSecond
		}
		l = append(l, pair(name, at[number-1]))
	}
	for i := range at {
		if i > 0 && at[i] <= at[i-1] {
			c.bad = true
		}
	}
	if c.bad || c.rest != "" {
		return nil, nil, api.ErrSecond
	}
	for i := range l {
		if i > 0 && !inOrder(l[i-1], l[i]) {
			return nil, nil, api.ErrSorted
		}
	}
	return at, l, api.OK
}

func toldFind(data, name string) (int, api.Errno) {
	_, l, e := toldSplit(data)
	if e != api.OK {
		return 0, e
	}
	for _, x := range l {
		if x.Name == name {
			return x.At, api.OK
		}
	}
	return 0, api.ErrNone
}

// objectsOf are the members with the names that layer 6 tells of their data.
func objectsOf(l []api.Member) []object {
	var all []object
	for _, m := range l {
		all = append(all, object{m, syms.Globals(m.Data)})
	}
	return all
}

// isWide: has a number more than its columns?
func isWide(m api.Meta) bool {
	return min(m.Date, m.UID, m.GID, m.Mode) < 0 || m.Date > 999999999999 || max(m.UID, m.GID) > 999999 || m.Mode > 16777215
}

// toldBuild knows nothing of what is too long or too far: no archive that the tests make of chance is.
func toldBuild(l []api.Member, stamp int) (string, api.Errno) {
	is := func(bad func(api.Member) bool) bool { return slices.ContainsFunc(l, bad) }
	switch {
	case len(l) > 65535:
		return "", api.ErrFar
	case is(func(m api.Member) bool { return !names.Valid(m.Name) }):
		return "", api.ErrName
	case is(func(m api.Member) bool { return m.Size != len(m.Data) }):
		return "", api.ErrSize
	case is(func(m api.Member) bool { return isWide(m.Meta) }), isWide(api.Meta{Date: stamp}):
		return "", api.ErrWide
	}
	return archive(stamp, objectsOf(l)...), api.OK
}

// toldPart is a part as it is read.
type toldPart struct {
	api.Head
	at, sort   int
	name, data string
}

// toldTake reads the part with this number, and tells what is behind it.
func toldTake(b string, at, number int, table string) (toldPart, string, api.Errno) {
	h, e := layer7.Parse(b, at)
	if e != api.OK {
		return toldPart{}, "", e
	}
	f, e := names.Read(h.Name)
	if e != api.OK {
		return toldPart{}, "", e
	}
	x := toldPart{Head: h, at: at, sort: f.Sort, name: f.Name}
	switch {
	case number < 2 && f.Sort != api.FieldIndex, number >= 2 && f.Sort == api.FieldIndex, number > 2 && f.Sort == api.FieldTable:
		return x, "", api.ErrPlace
	case number >= 2 && f.Sort != api.FieldShort && f.Sort != api.FieldRef && f.Sort != api.FieldTable:
		return x, "", api.ErrMixed
	}
	rest := b[at+60:]
	if len(rest) < h.Size {
		return x, "", api.ErrData
	}
	x.data, rest = rest[:h.Size], rest[h.Size:]
	if h.Size%2 == 1 {
		if !strings.HasPrefix(rest, "\n") {
			return x, "", api.ErrPad
		}
		rest = rest[1:]
	}
	if f.Sort == api.FieldRef {
		if f.Num >= len(table) || !strings.Contains(table[f.Num:], "\x00") {
			return x, "", api.ErrTable
		}
		x.name = strings.Split(table[f.Num:], "\x00")[0]
		if !names.Valid(x.name) {
			return x, "", api.ErrName
		}
	}
	return x, rest, api.OK
}

// toldParts are all parts of an archive; with a refusal the place of the one that is refused.
func toldParts(b string) ([]toldPart, int, api.Errno) {
	if len(b) < 8 || b[:8] != magic {
		return nil, 0, api.ErrMagic
	}
	var all []toldPart
	table := ""
	for at := 8; at < len(b); {
		x, rest, e := toldTake(b, at, len(all), table)
		if e != api.OK {
			return nil, at, e
		}
		if x.sort == api.FieldTable {
			table = x.data
		}
		all = append(all, x)
		at = len(b) - len(rest)
	}
	if len(all) < 2 {
		return nil, len(b), api.ErrPlace
	}
	return all, 0, api.OK
}

func toldRead(b string) (api.Parsed, []api.Entry, int, api.Errno) {
	parts, place, e := toldParts(b)
	if e != api.OK {
		return api.Parsed{}, nil, place, e
	}
	p := parsed(parts[0].data, parts[0].Date, nil, nil)
	for _, x := range parts[2:] {
		if x.sort != api.FieldTable {
			p.Members = append(p.Members, api.Member{Meta: x.Meta, Name: x.name, Size: x.Size, Data: x.data})
			p.At = append(p.At, x.at)
		}
	}
	old, e := index.Decode(api.Index32, parts[0].data)
	if e != api.OK {
		return api.Parsed{}, nil, 8, e
	}
	at, l, e := toldSplit(parts[1].data)
	switch {
	case e != api.OK:
		return api.Parsed{}, nil, parts[1].at, e
	case !slices.Equal(at, p.At):
		return api.Parsed{}, nil, parts[1].at, api.ErrSecond
	case !slices.Equal(putInOrder(old), l):
		return api.Parsed{}, nil, parts[1].at, api.ErrTwoTell
	}
	return p, l, 0, api.OK
}
