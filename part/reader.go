package part

import (
	"strings"

	"shelf/api"
	"shelf/names"
)

// Reader tells what stands at a place of a file, by the parts that it has taken so far.
type Reader struct {
	file    string
	count   int      // how many parts it has taken
	kind    api.Kind // of a regular archive known behind the first part alone
	indexed bool     // the first part is an index
	table   string   // empty if there is none
}

// NewReader is a reader that has taken nothing yet. A file without a magic is read as a regular archive's.
func NewReader(b string) *Reader {
	kind, _ := KindByMagic(b)
	return &Reader{file: b, kind: kind}
}

// KindByMagic is the kind of an archive without parts.
func KindByMagic(b string) (api.Kind, api.Errno) {
	switch {
	case strings.HasPrefix(b, api.MagicRegular):
		return api.GNU, api.OK
	case strings.HasPrefix(b, api.MagicThin):
		return api.Thin, api.OK
	}
	return 0, api.ErrMagic
}

// Look reads the part at a place, and refuses it in the order of the chapters on archives. Of a part that is refused the place alone counts.
func (r *Reader) Look(at int) (Part, api.Errno) {
	raw, e := ReadHead(r.file, at)
	x := Part{Raw: raw}
	if e != api.OK {
		return x, e
	}
	x.kind = r.kindAt(x)
	if !x.goesWithKind() {
		return x, api.ErrMixed
	}
	if !r.isInPlace(x) {
		return x, api.ErrPlace
	}
	if x.hasData() {
		if e := x.CutData(r.file); e != api.OK {
			return x, e
		}
	}
	e = x.findName(r.table) // not beside x in the return: Go leaves open whether x is read ahead of a call that changes it
	return x, e
}

// kindAt is the archive's kind: a regular one's first part settles it.
func (r *Reader) kindAt(x Part) api.Kind {
	if r.count == 0 && r.kind != api.Thin {
		return names.KindOf(x.Field.Sort)
	}
	return r.kind
}

// isInPlace: special members stand first, the index ahead of the table.
func (r *Reader) isInPlace(x Part) bool {
	switch {
	case x.isIndex():
		return r.count == 0
	case x.isTable():
		return r.count == 0 || r.count == 1 && r.indexed
	}
	return true
}

// Take keeps what later parts hang on.
func (r *Reader) Take(x Part) {
	r.count++
	r.kind = x.kind
	if x.isIndex() {
		r.indexed = true
	}
	if x.isTable() {
		r.table = x.Data
	}
}
