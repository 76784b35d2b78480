package lay

import "shelf/api"

func isKind(kind api.Kind) bool {
	return kind == api.GNU || kind == api.Thin || kind == api.BSD
}

// isSize: has a header's column room for so many bytes?
func isSize(n int) bool { return n >= 0 && n <= api.MaxSize }

// areSizes: can each member, with what stands ahead of its data, have its size? No sum can run over: the size by itself is looked at first.
func areSizes(list []api.Spec, inline []string) bool {
	for i, s := range list {
		if !isSize(s.Size) || !isSize(len(inline[i])+s.Size) {
			return false
		}
	}
	return true
}

// goesWith: can the index of an archive of this kind have this form?
func goesWith(kind api.Kind, form api.Form) bool {
	switch form {
	case api.NoIndex:
		return true
	case api.Index32, api.Index64:
		return kind != api.BSD
	case api.IndexBSD:
		return kind == api.BSD
	}
	return false
}

// refuseForm is why an archive is refused before any of its members is looked at.
func refuseForm(a api.Archive) api.Errno {
	switch {
	case !isKind(a.Kind):
		return api.ErrRange
	case !goesWith(a.Kind, a.Form), a.Form == api.NoIndex && (a.Index != "" || a.Stamp != 0):
		return api.ErrForm
	case len(a.Members) > api.MaxMembers:
		return api.ErrRange
	}
	return api.OK
}

// tellsItsData: are a regular archive's sizes those of its data, and are a thin one's data elsewhere?
func tellsItsData(a api.Archive) bool {
	for _, m := range a.Members {
		if a.Kind == api.Thin && m.Data != "" || a.Kind != api.Thin && m.Size != len(m.Data) {
			return false
		}
	}
	return isSize(len(a.Index))
}
