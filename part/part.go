package part

import (
	"shelf/api"
	"shelf/names"
)

// Part is a header with what belongs to it, as archives of members have them.
type Part struct {
	Raw           // Size, Data: what the member has for its reader, without a name ahead of it
	kind api.Kind // the archive's, as far as it is known here
	name string   // an ordinary member's
}

func (x Part) isIndex() bool { return x.form() != api.NoIndex }

func (x Part) isTable() bool { return x.Field.Sort == api.FieldTable }

// IsOrdinary: is it a member, neither the index nor the table of long names?
func (x Part) IsOrdinary() bool { return !x.isIndex() && !x.isTable() }

// form is the index's; NoIndex tells that the part is none.
func (x Part) form() api.Form {
	switch x.Field.Sort {
	case api.FieldIndex:
		return api.Index32
	case api.FieldIndex64:
		return api.Index64
	case api.FieldSymdef:
		return api.IndexBSD
	}
	return api.NoIndex
}

// hasData: the data of a thin archive's ordinary members are in files of their own.
func (x Part) hasData() bool { return x.kind != api.Thin || !x.IsOrdinary() }

// goesWithKind: may a field of this sort stand in an archive of this kind?
func (x Part) goesWithKind() bool {
	return (names.KindOf(x.Field.Sort) == api.BSD) == (x.kind == api.BSD)
}

// findName looks for an ordinary member's name where its field says that it is.
func (x *Part) findName(table string) api.Errno {
	var e api.Errno
	switch x.Field.Sort {
	case api.FieldShort, api.FieldPlain:
		x.name = x.Field.Name
	case api.FieldRef:
		x.name, e = names.Look(table, x.Field.Num)
	case api.FieldLong:
		x.name, x.Data, e = names.Inline(x.Data, x.Field.Num)
		x.Size = len(x.Data)
	}
	return e
}

// Member is an ordinary member as it is told.
func (x Part) Member() api.Member { return x.Named(x.name) }

// AddTo puts what the part tells into the archive.
func (x Part) AddTo(p *api.Parsed) {
	p.Kind = x.kind
	switch {
	case x.IsOrdinary():
		p.Members = append(p.Members, x.Member())
		p.At = append(p.At, x.At)
	case x.isIndex():
		p.Form, p.Index, p.Stamp = x.form(), x.Data, x.Date
	}
}
