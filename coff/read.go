package coff

import (
	"slices"
	"strings"

	"shelf/api"
	"shelf/index"
	"shelf/names"
	"shelf/part"
)

// reader is what the parts told that it has taken so far.
type reader struct {
	count   int // how many parts that are
	linkers [linkers]part.Raw
	table   string // empty if there is none
	members []api.Member
	at      []int
}

// take takes the part at a place; the next one begins where it ends.
func (r *reader) take(b string, at int) (int, api.Errno) {
	x, e := part.ReadHead(b, at)
	if e != api.OK {
		return 0, e
	}
	if e := r.refuseSort(x.Field.Sort); e != api.OK {
		return 0, e
	}
	if e := x.CutData(b); e != api.OK {
		return 0, e
	}
	name, e := r.nameOf(x.Field)
	if e != api.OK {
		return 0, e
	}
	r.keep(x, name)
	return x.End, api.OK
}

// refuseSort is why a part with a name field of this sort can't be the next one.
func (r *reader) refuseSort(sort int) api.Errno {
	if (r.count < linkers) != (sort == api.FieldIndex) || sort == api.FieldTable && r.count != linkers {
		return api.ErrPlace
	}
	switch sort {
	case api.FieldIndex, api.FieldTable, api.FieldShort, api.FieldRef:
		return api.OK
	}
	return api.ErrMixed
}

// nameOf is the name that a field has or leads to.
func (r *reader) nameOf(f api.Field) (string, api.Errno) {
	if f.Sort == api.FieldRef {
		return look(r.table, f.Num)
	}
	return f.Name, api.OK
}

// look is the name at a place of a table of long names.
func look(table string, at int) (string, api.Errno) {
	if at >= len(table) {
		return "", api.ErrTable
	}
	name, _, ended := strings.Cut(table[at:], string(end))
	if !ended {
		return "", api.ErrTable
	}
	if !names.Valid(name) {
		return "", api.ErrName
	}
	return name, api.OK
}

func (r *reader) keep(x part.Raw, name string) {
	switch x.Field.Sort {
	case api.FieldIndex:
		r.linkers[r.count] = x
	case api.FieldTable:
		r.table = x.Data
	default:
		r.members = append(r.members, x.Named(name))
		r.at = append(r.at, x.At)
	}
	r.count++
}

// pairs are what both linker members tell; with a refusal the place of the one that is refused.
func (r *reader) pairs() ([]api.Entry, int, api.Errno) {
	first, second := r.linkers[0], r.linkers[1]
	old, e := index.Decode(api.Index32, first.Data)
	if e != api.OK {
		return nil, first.At, e
	}
	at, list, e := Split(second.Data)
	if e != api.OK {
		return nil, second.At, e
	}
	if !slices.Equal(at, r.at) {
		return nil, second.At, api.ErrSecond
	}
	if !slices.Equal(sorted(old), list) {
		return nil, second.At, api.ErrTwoTell
	}
	return list, 0, api.OK
}

// parsed is the archive as it is told.
func (r *reader) parsed() api.Parsed {
	first := r.linkers[0]
	a := api.Archive{Kind: api.GNU, Form: api.Index32, Index: first.Data, Stamp: first.Date, Members: r.members}
	return api.Parsed{Archive: a, At: r.at}
}
