package pack

import (
	"shelf/api"
	"shelf/index"
	"shelf/lay"
	"shelf/pairs"
)

// noIndex is the length of an index that is not there, as lay.Plan is told it.
const noIndex = -1

func isKind(kind api.Kind) bool {
	return kind == api.GNU || kind == api.Thin || kind == api.BSD
}

// formsOf are the forms that the index of an archive of this kind may take, in the order in which they are tried.
func formsOf(kind api.Kind) []api.Form {
	if kind == api.BSD {
		return []api.Form{api.IndexBSD}
	}
	return []api.Form{api.Index32, api.Index64}
}

// isTooFar: does a place call for another form than this one? Behind the wide form there is none: it is taken whatever the places become by it.
func isTooFar(form api.Form, place, wide int) bool {
	return form != api.Index64 && place >= wide
}

// planIndexed lays an archive with symbols out. The index moves what it points at, so another form calls for another layout.
func planIndexed(kind api.Kind, specs []api.Spec, symbols pairs.List[string, int], wide int) (api.Plan, api.Errno) {
	names := symbols.Lefts()
anew:
	for _, form := range formsOf(kind) {
		n, e := index.Size(form, names)
		if e != api.OK {
			return api.Plan{}, e
		}
		l, e := lay.Plan(kind, specs, n)
		if e != api.OK {
			return api.Plan{}, e
		}
		for _, symbol := range symbols {
			if isTooFar(form, l.At[symbol.Right], wide) {
				continue anew
			}
		}
		return api.Plan{Layout: l, Form: form, Index: n}, api.OK
	}
	return api.Plan{}, api.ErrFar
}
