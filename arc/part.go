package arc

import (
	"shelf/api"
	"shelf/head"
	"shelf/names"
)

// part is a header with what belongs to it.
type part struct {
	api.Head           // Size: how many bytes the member has for its reader
	at       int       // where the header begins
	end      int       // where the next part begins
	kind     api.Kind  // the archive's, as far as it is known here
	field    api.Field // what the header's name field says
	name     string    // an ordinary member's
	data     string    // without a name ahead of them
}

// readHead reads the header at a place, and its name field.
func readHead(b string, at int) (part, api.Errno) {
	h, e := head.Parse(b, at)
	if e != api.OK {
		return part{at: at}, e
	}
	f, e := names.Read(h.Name)
	return part{Head: h, at: at, field: f}, e
}

func (x part) isIndex() bool { return x.form() != api.NoIndex }

func (x part) isTable() bool { return x.field.Sort == api.FieldTable }

func (x part) isOrdinary() bool { return !x.isIndex() && !x.isTable() }

// form is the index's; NoIndex tells that the part is none.
func (x part) form() api.Form {
	switch x.field.Sort {
	case api.FieldIndex:
		return api.Index32
	case api.FieldIndex64:
		return api.Index64
	case api.FieldSymdef:
		return api.IndexBSD
	}
	return api.NoIndex
}

// hasData: the data of a thin archive's ordinary members are in files of their own.
func (x part) hasData() bool { return x.kind != api.Thin || !x.isOrdinary() }

// goesWithKind: may a field of this sort stand in an archive of this kind?
func (x part) goesWithKind() bool {
	return (names.KindOf(x.field.Sort) == api.BSD) == (x.kind == api.BSD)
}

// cutData takes the data that stand behind the header, and their newline.
func (x *part) cutData(b string) api.Errno {
	x.end = x.at + api.HeadSize
	if !x.hasData() {
		return api.OK
	}
	if x.Size > len(b)-x.end {
		return api.ErrData
	}
	x.data = b[x.end : x.end+x.Size]
	x.end += x.Size
	if x.Size%2 == 0 {
		return api.OK
	}
	if x.end == len(b) || b[x.end] != pad {
		return api.ErrPad
	}
	x.end++
	return api.OK
}

// findName looks for an ordinary member's name where its field says that it is.
func (x *part) findName(table string) api.Errno {
	var e api.Errno
	switch x.field.Sort {
	case api.FieldShort, api.FieldPlain:
		x.name = x.field.Name
	case api.FieldRef:
		x.name, e = names.Look(table, x.field.Num)
	case api.FieldLong:
		x.name, x.data, e = names.Inline(x.data, x.field.Num)
		x.Size = len(x.data)
	}
	return e
}

// member is an ordinary member as it is told.
func (x part) member() api.Member {
	return api.Member{Meta: x.Meta, Name: x.name, Size: x.Size, Data: x.data}
}
