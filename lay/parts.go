package lay

import (
	"shelf/api"
	"shelf/head"
	"shelf/part"
)

// tableField is the name field of the table of long names.
const tableField = "//"

// sheet is parts in their order, and why the first header that could not be written was refused.
type sheet struct {
	parts   []part.Text
	refusal api.Errno
}

// add puts a header, and what belongs to it, behind the parts that are there.
func (s *sheet) add(h api.Head, ahead, data string) {
	header, e := head.Format(h)
	if s.refusal == api.OK {
		s.refusal = e
	}
	s.parts = append(s.parts, part.Text{header, ahead, data})
}

// partsOf is all that stands in an archive, in order.
func partsOf(a api.Archive, n api.Names) ([]part.Text, api.Errno) {
	s := sheet{parts: []part.Text{{magicOf(a.Kind)}}}
	if a.Form != api.NoIndex {
		s.add(api.Head{Meta: api.Meta{Date: a.Stamp}, Name: fieldOf(a.Form), Size: len(a.Index)}, "", a.Index)
	}
	if n.Table != "" {
		s.add(api.Head{Name: tableField, Size: len(n.Table)}, "", n.Table)
	}
	for i, m := range a.Members {
		s.add(api.Head{Meta: m.Meta, Name: n.Fields[i], Size: len(n.Inline[i]) + m.Size}, n.Inline[i], m.Data)
	}
	return s.parts, s.refusal
}

func magicOf(kind api.Kind) string {
	if kind == api.Thin {
		return api.MagicThin
	}
	return api.MagicRegular
}

// fieldOf is the name field of an index of this form.
func fieldOf(form api.Form) string {
	switch form {
	case api.Index64:
		return "/SYM64/"
	case api.IndexBSD:
		return "__.SYMDEF"
	}
	return "/"
}
