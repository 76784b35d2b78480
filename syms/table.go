package syms

import (
	"slices"

	"shelf/api"
	"shelf/elf"
	"shelf/num"
)

// Types of sections.
const (
	symbolTable = 2
	stringTable = 3
)

// table reads the symbol tables of a file, one after the other, by the columns of the file's class.
type table struct {
	columns
	order   api.Order
	entries string
	names   string
}

// open finds the bytes of the symbol table s and of its string table in the file b.
func (t *table) open(b string, sections []api.Section, s api.Section) (e api.Errno) {
	if s.EntSize != t.length || s.Size%t.length != 0 {
		return api.ErrEntSize
	}
	if t.entries, e = elf.Content(b, s); e != api.OK {
		return e
	}
	if s.Link >= len(sections) || sections[s.Link].Type != stringTable {
		return api.ErrLink
	}
	t.names, e = elf.Content(b, sections[s.Link])
	return e
}

// appendTo is the list with the opened table's symbols behind it.
func (t *table) appendTo(list []api.Symbol) ([]api.Symbol, api.Errno) {
	length := int(t.length)
	list = slices.Grow(list, len(t.entries)/length)
	for at := 0; at < len(t.entries); at += length {
		s, e := t.symbol(t.entries[at : at+length])
		if e != api.OK {
			return nil, e
		}
		list = append(list, s)
	}
	return list, api.OK
}

// symbol reads an entry.
func (t *table) symbol(entry string) (api.Symbol, api.Errno) {
	name, e := t.nameAt(int(t.number(entry, t.name)))
	if e != api.OK {
		return api.Symbol{}, e
	}
	info := int(t.number(entry, t.info))
	return api.Symbol{
		Name:    name,
		Bind:    info / 16,
		Type:    info % 16,
		Other:   int(t.number(entry, t.other)),
		Section: int(t.number(entry, t.section)),
		Value:   t.number(entry, t.value),
		Size:    t.number(entry, t.size),
	}, api.OK
}

// nameAt is the name at a place of the string table. Place 0 means no name, though a string may stand there.
func (t *table) nameAt(place int) (string, api.Errno) {
	if place == 0 {
		return "", api.OK
	}
	return elf.Str(t.names, place)
}

// number reads a field. An entry is there whole, so none of its fields can be cut.
func (t *table) number(entry string, c column) uint64 {
	n, _ := num.Load(entry, c.at, c.width, t.order)
	return n
}
