package elf

import (
	"strings"

	"shelf/api"
)

// Types of sections.
const (
	stringTable = 3
	roomAlone   = 8 // no bytes in the file
)

// namesInLink is the Shstrndx that sends to section 0's Link: the number has no room in the header.
const namesInLink = 0xffff

// table is a file's section table: count entries that are there whole. Entries are read when they are asked for, so that one name does not cost a reading of all.
type table struct {
	*file
	entries string
	count   int
	names   int // Shstrndx
}

// findTable finds a file's section table, and asks whether it is there whole.
func findTable(b string) table {
	f := identify(b)
	h := f.header()
	t := table{file: f, names: h.Shstrndx}
	if h.Shoff == 0 {
		return t
	}
	require(uint64(h.Shentsize) == f.entry.length, api.ErrEntSize)
	count := f.countEntries(h)
	require(count <= uint64(len(b))/f.entry.length, api.ErrCut) // else the product could wrap
	t.entries = piece(b, h.Shoff, count*f.entry.length)
	t.count = int(count)
	return t
}

// countEntries is how many entries the table has: a number with no room in the header stands in entry 0.
func (f *file) countEntries(h api.ELF) uint64 {
	if h.Shnum != 0 {
		return uint64(h.Shnum)
	}
	return f.number(piece(f.bytes, h.Shoff, f.entry.length), f.entry.size)
}

// sections reads every entry.
func (t table) sections() []api.Section {
	list := make([]api.Section, t.count)
	for i := range list {
		list[i] = t.at(i)
	}
	return list
}

// at reads entry i.
func (t table) at(i int) api.Section {
	require(i >= 0 && i < t.count, api.ErrSection)
	return t.section(piece(t.entries, uint64(i)*t.entry.length, t.entry.length))
}

// nameOf is the name of section i.
func (t table) nameOf(i int) string {
	named := t.at(i)
	names := t.at(t.namesNumber())
	require(names.Type == stringTable, api.ErrLink)
	return textAt(content(t.bytes, names), named.Name)
}

// namesNumber is the number of the section that holds the sections' names.
func (t table) namesNumber() int {
	if t.names == namesInLink {
		return t.at(0).Link
	}
	return t.names
}

// content is the bytes that section s has in b.
func content(b string, s api.Section) string {
	if s.Type == roomAlone {
		return ""
	}
	return piece(b, s.Offset, s.Size)
}

// textAt is the string at off of a string table.
func textAt(strs string, off int) string {
	require(off >= 0 && off < len(strs), api.ErrString)
	end := strings.IndexByte(strs[off:], 0)
	require(end >= 0, api.ErrString)
	return strs[off : off+end]
}
