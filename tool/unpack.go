package tool

import (
	"shelf/api"
	"shelf/files"
	"shelf/show"
)

// extract carries out x. What was unpacked is told also if a later member is refused: its file is there.
func (w *work) extract() api.Result {
	list, missing := w.meant()
	no := w.unpackAll(list)
	answer := w.ended(missing)
	if no.code != api.OK {
		answer = no.told(w.command.Prog)
	}
	if w.command.Verbose {
		answer.Out = show.Events(w.events)
	}
	return answer
}

// unpackAll unpacks members in order, and makes their names durable behind the last one.
func (w *work) unpackAll(list []api.Member) refusal {
	for _, m := range list {
		if e := w.unpack(m); e != api.OK {
			return refusal{m.Name, e}
		}
		w.events = append(w.events, api.Event{What: 'x', Name: m.Name})
	}
	if len(list) == 0 {
		return refusal{}
	}
	err := w.SyncDir()
	return refusal{w.command.Archive, files.Code(err)}
}

// unpack makes a file of a member. The archive is never written over by a member of its own.
func (w *work) unpack(m api.Member) api.Errno {
	if m.Name == api.TempName || m.Name == w.command.Archive {
		return api.ErrReserved
	}
	meta := api.Meta{Date: w.env.Now, UID: w.env.UID, GID: w.env.GID, Mode: m.Mode}
	if w.command.Dates {
		meta.Date = m.Date
	}
	h, err := w.Create(m.Name, meta)
	if err != nil {
		return files.Code(err)
	}
	err = files.Fill(h, m.Data)
	return files.Code(err)
}
