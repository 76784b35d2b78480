package tool

import (
	"shelf/api"
	"shelf/fetch"
)

// fetch gives members of a thin archive the bytes of their files, where they have none and should.
func (w *work) fetch(list []api.Member) refusal {
	for i, m := range list {
		if m.Data != "" {
			continue
		}
		data, e := fetch.Member(w.FS, m)
		if e != api.OK {
			return refusal{m.Name, e}
		}
		list[i].Data = data
	}
	return refusal{}
}
