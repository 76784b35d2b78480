// Package part: the parts of an archive, each a header with what belongs to it, as the layers that read archives of members go through them: what may stand at a place, and what it tells.
package part

import (
	"shelf/api"
	"shelf/head"
	"shelf/names"
)

// pad stands behind data of odd length.
const pad = '\n'

// Part is a header with what belongs to it.
type Part struct {
	api.Head           // Size: how many bytes the member has for its reader
	At       int       // where the header begins
	End      int       // where what belongs to it ends
	kind     api.Kind  // the archive's, as far as it is known here
	field    api.Field // what the header's name field says
	name     string    // an ordinary member's
	data     string    // without a name ahead of them
}

// readHead reads the header at a place, and its name field.
func readHead(b string, at int) (Part, api.Errno) {
	h, e := head.Parse(b, at)
	if e != api.OK {
		return Part{At: at}, e
	}
	f, e := names.Read(h.Name)
	return Part{Head: h, At: at, field: f}, e
}

func (x Part) isIndex() bool { return x.form() != api.NoIndex }

func (x Part) isTable() bool { return x.field.Sort == api.FieldTable }

// IsOrdinary: is it a member, neither the index nor the table of long names?
func (x Part) IsOrdinary() bool { return !x.isIndex() && !x.isTable() }

// form is the index's; NoIndex tells that the part is none.
func (x Part) form() api.Form {
	switch x.field.Sort {
	case api.FieldIndex:
		return api.Index32
	case api.FieldIndex64:
		return api.Index64
	case api.FieldSymdef:
		return api.IndexBSD
	}
	return api.NoIndex
}

// hasData: the data of a thin archive's ordinary members are in files of their own.
func (x Part) hasData() bool { return x.kind != api.Thin || !x.IsOrdinary() }

// goesWithKind: may a field of this sort stand in an archive of this kind?
func (x Part) goesWithKind() bool {
	return (names.KindOf(x.field.Sort) == api.BSD) == (x.kind == api.BSD)
}

// cutData takes the data that stand behind the header, and their newline.
func (x *Part) cutData(b string) api.Errno {
	x.End = x.At + api.HeadSize
	if !x.hasData() {
		return api.OK
	}
	if x.Size > len(b)-x.End {
		return api.ErrData
	}
	x.data = b[x.End : x.End+x.Size]
	x.End += x.Size
	if x.Size%2 == 0 {
		return api.OK
	}
	if x.End == len(b) || b[x.End] != pad {
		return api.ErrPad
	}
	x.End++
	return api.OK
}

// findName looks for an ordinary member's name where its field says that it is.
func (x *Part) findName(table string) api.Errno {
	var e api.Errno
	switch x.field.Sort {
	case api.FieldShort, api.FieldPlain:
		x.name = x.field.Name
	case api.FieldRef:
		x.name, e = names.Look(table, x.field.Num)
	case api.FieldLong:
		x.name, x.data, e = names.Inline(x.data, x.field.Num)
		x.Size = len(x.data)
	}
	return e
}

// Member is an ordinary member as it is told.
func (x Part) Member() api.Member {
	return api.Member{Meta: x.Meta, Name: x.name, Size: x.Size, Data: x.data}
}

// AddTo puts what the part tells into the archive.
func (x Part) AddTo(p *api.Parsed) {
	p.Kind = x.kind
	switch {
	case x.IsOrdinary():
		p.Members = append(p.Members, x.Member())
		p.At = append(p.At, x.At)
	case x.isIndex():
		p.Form, p.Index, p.Stamp = x.form(), x.data, x.Date
	}
}
