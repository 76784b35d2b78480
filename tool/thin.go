package tool

import "shelf/api"

// fetch gives members of a thin archive the bytes of their files, where they have none and should.
func (w *work) fetch(list []api.Member) refusal {
	for i, m := range list {
		if m.Size == 0 || m.Data != "" {
			continue
		}
		data, no := w.fileOf(m)
		if no.code != api.OK {
			return no
		}
		list[i].Data = data
	}
	return refusal{}
}

// fileOf is the bytes of the file that a thin archive's member stands for.
func (w *work) fileOf(m api.Member) (string, refusal) {
	if m.Name == api.TempName {
		return "", refusal{m.Name, api.ErrReserved}
	}
	data, err := w.ReadFile(m.Name)
	code := codeOf(err)
	switch {
	case isNoFile(code):
		return "", refusal{m.Name, api.ErrLost}
	case code != api.OK:
		return "", refusal{m.Name, code}
	case len(data) != m.Size:
		return "", refusal{m.Name, api.ErrStale}
	}
	return data, refusal{}
}
