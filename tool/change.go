package tool

import (
	"shelf/api"
	"shelf/commit"
	"shelf/files"
	"shelf/ops"
	"shelf/pack"
	"shelf/show"
	"shelf/text"
)

// archiveMode is the mode of an archive that is written.
const archiveMode = 0o644

// change carries out d, m, q, r and s: nothing is written ahead of the last step, and that one does it at once or not at all.
func (w *work) change() api.Result {
	steps := []func() refusal{w.gather, w.apply, w.fetchAll, w.build, w.replace}
	for _, step := range steps {
		if no := step(); no.code != api.OK {
			return no.told(w.command.Prog)
		}
	}
	return w.changed()
}

// gather reads the files that go in.
func (w *work) gather() refusal {
	if !w.putsIn() {
		return refusal{}
	}
	for _, name := range w.command.Names {
		info, err := w.Stat(name)
		if err != nil {
			return refusal{name, files.Code(err)}
		}
		data, err := w.ReadFile(name)
		if err != nil {
			return refusal{name, files.Code(err)}
		}
		w.fresh = append(w.fresh, api.Member{Meta: info.Meta, Name: name, Size: len(data), Data: data})
	}
	return refusal{}
}

// apply makes of the members what the operation says.
func (w *work) apply() refusal {
	c := w.command
	var name string
	var e api.Errno
	switch c.Op {
	case 'd':
		w.members, name, e = ops.Delete(w.members, c.Names)
		w.events = eventsOf('d', c.Names)
	case 'm':
		w.members, name, e = ops.Move(w.members, c.Names, c.Pos)
		w.events = eventsOf('m', c.Names)
	case 'q':
		w.members = ops.Append(w.members, w.fresh)
		w.events = eventsOf('q', c.Names)
	case 'r':
		name = c.Pos.Anchor
		w.members, w.events, e = ops.Insert(w.members, w.fresh, c.Pos, c.Update)
	}
	return refusal{name, e}
}

// fetchAll reads a thin archive's files, whose symbols the index is made of.
func (w *work) fetchAll() refusal {
	if w.kind != api.Thin || w.command.Bare {
		return refusal{}
	}
	return w.fetch(w.members)
}

// build makes the new archive's bytes.
func (w *work) build() refusal {
	stamp := w.env.Now
	if w.command.Det {
		w.members = ops.Normal(w.members)
		stamp = 0
	}
	data, e := pack.Build(w.kind, w.members, stamp, threshold(w.env), w.command.Bare)
	w.data = data
	return refusal{w.command.Archive, e}
}

// replace puts the new archive in the place of the old one.
func (w *work) replace() refusal {
	meta := api.Meta{Date: w.env.Now, UID: w.env.UID, GID: w.env.GID, Mode: archiveMode}
	err := commit.Replace(w.FS, w.command.Archive, w.data, meta)
	return refusal{w.command.Archive, files.Code(err)}
}

// changed is what is told of a change that was made.
func (w *work) changed() api.Result {
	var answer api.Result
	if w.command.Verbose {
		answer.Out = show.Events(w.events)
	}
	if w.made && !w.command.Quiet {
		answer.Msg = "ar: creating " + text.Quote(w.command.Archive) + "\n"
	}
	return answer
}

// eventsOf is one event of each name.
func eventsOf(what byte, names []string) []api.Event {
	events := make([]api.Event, len(names))
	for i, name := range names {
		events[i] = api.Event{What: what, Name: name}
	}
	return events
}

// threshold is the first place that calls for the wide index.
func threshold(env api.Env) int {
	if env.Wide == 0 {
		return api.Wide32
	}
	return env.Wide
}
