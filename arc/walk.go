package arc

import (
	"iter"
	"strings"

	"shelf/api"
	"shelf/names"
)

// pad stands behind data of odd length.
const pad = '\n'

// walk is how far the parts of a file were gone through.
type walk struct {
	file    string
	at      int      // where the next part begins
	count   int      // how many parts are behind it
	kind    api.Kind // of a regular archive known behind the first header alone
	indexed bool     // the first part is an index
	table   string   // empty if there is none
}

// parts goes through a file's parts. The first refusal is the last that it tells, with a part of which the place alone counts.
func parts(b string) iter.Seq2[part, api.Errno] {
	return func(yield func(part, api.Errno) bool) {
		kind, e := kindByMagic(b)
		if e != api.OK {
			yield(part{}, e)
			return
		}
		w := walk{file: b, at: len(api.MagicRegular), kind: kind}
		for w.at < len(b) {
			x, e := w.look()
			if !yield(x, e) || e != api.OK {
				return
			}
			w.pass(x)
		}
	}
}

// kindByMagic is the kind of an archive without parts.
func kindByMagic(b string) (api.Kind, api.Errno) {
	switch {
	case strings.HasPrefix(b, api.MagicRegular):
		return api.GNU, api.OK
	case strings.HasPrefix(b, api.MagicThin):
		return api.Thin, api.OK
	}
	return 0, api.ErrMagic
}

// look reads the next part, and refuses it in the chapter's order.
func (w *walk) look() (part, api.Errno) {
	x, e := readHead(w.file, w.at)
	if e != api.OK {
		return x, e
	}
	x.kind = w.kindAt(x)
	if !x.goesWithKind() {
		return x, api.ErrMixed
	}
	if !w.isInPlace(x) {
		return x, api.ErrPlace
	}
	if e := x.cutData(w.file); e != api.OK {
		return x, e
	}
	e = x.findName(w.table) // not beside x in the return: Go leaves open whether x is read ahead of a call that changes it
	return x, e
}

// kindAt is the archive's kind: a regular one's first part settles it.
func (w *walk) kindAt(x part) api.Kind {
	if w.count == 0 && w.kind != api.Thin {
		return names.KindOf(x.field.Sort)
	}
	return w.kind
}

// isInPlace: special members stand first, the index ahead of the table.
func (w *walk) isInPlace(x part) bool {
	switch {
	case x.isIndex():
		return w.count == 0
	case x.isTable():
		return w.count == 0 || w.count == 1 && w.indexed
	}
	return true
}

// pass goes on behind a part, and keeps what later parts hang on.
func (w *walk) pass(x part) {
	w.at = x.end
	w.count++
	w.kind = x.kind
	if x.isIndex() {
		w.indexed = true
	}
	if x.isTable() {
		w.table = x.data
	}
}
