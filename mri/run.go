package mri

import (
	"strings"

	"shelf/api"
	"shelf/fetch"
	"shelf/show"
	"shelf/vfs"
)

// run is a script that is being carried out.
type run struct {
	fs      *vfs.FS
	env     api.Env
	out     strings.Builder // what was told so far
	verbose bool
	open    *archive // nil: none is
}

// refusal is the name at which a script ends, and why; with OK it does not end.
type refusal struct {
	name string
	code api.Errno
}

// deed is what a verb does.
type deed struct {
	wantsOpen bool
	do        func(c api.Mri) refusal
}

// deeds are what the verbs do, by their numbers: functions that hold the run. END is not among them, as nothing is done there.
func (r *run) deeds() []deed {
	return []deed{
		api.MriCreate:    {do: func(c api.Mri) refusal { return r.create(c.Name) }},
		api.MriOpen:      {do: func(c api.Mri) refusal { return r.openFile(c.Name) }},
		api.MriAddMod:    {wantsOpen: true, do: func(c api.Mri) refusal { return r.addFiles(c.Names) }},
		api.MriAddLib:    {wantsOpen: true, do: func(c api.Mri) refusal { return r.addMembers(c.Name, c.Names) }},
		api.MriDelete:    {wantsOpen: true, do: func(c api.Mri) refusal { return r.remove(c.Names) }},
		api.MriReplace:   {wantsOpen: true, do: func(c api.Mri) refusal { return r.replaceFiles(c.Names) }},
		api.MriExtract:   {wantsOpen: true, do: func(c api.Mri) refusal { return r.extract(c.Names) }},
		api.MriList:      {wantsOpen: true, do: func(api.Mri) refusal { return r.list() }},
		api.MriDirectory: {do: func(c api.Mri) refusal { return r.directory(c.Name, c.Names) }},
		api.MriVerbose:   {do: func(api.Mri) refusal { return r.turnVerbose() }},
		api.MriClear:     {wantsOpen: true, do: func(api.Mri) refusal { return r.removeAll() }},
		api.MriSave:      {wantsOpen: true, do: func(api.Mri) refusal { return r.save() }},
	}
}

// scriptIn is the script that stands in a file.
func scriptIn(fs *vfs.FS, name string) ([]api.Mri, refusal) {
	text, e := fetch.File(fs, name)
	if e != api.OK {
		return nil, refusal{name, e}
	}
	list, _, e := Decode(text)
	return list, refusal{name, e}
}

// carryOut carries commands out in order, up to an END or the first one that is refused.
func (r *run) carryOut(list []api.Mri) refusal {
	deeds := r.deeds()
	for _, c := range list {
		if c.Verb == api.MriEnd {
			break
		}
		d := deeds[c.Verb]
		if d.wantsOpen && r.open == nil {
			return refusal{"", api.ErrNoOpen}
		}
		if no := d.do(c); no.code != api.OK {
			return no
		}
	}
	return refusal{}
}

// answer is what a script answers that ends here.
func (r *run) answer(no refusal) api.Result {
	answer := api.Result{Out: r.out.String(), Code: no.code}
	if no.code != api.OK {
		answer.Msg = show.Message(api.Ar, no.name, no.code)
	}
	return answer
}

// tell tells what was done with members, if that is asked for.
func (r *run) tell(events []api.Event) {
	if r.verbose {
		r.out.WriteString(show.Events(events))
	}
}

// turnVerbose carries out VERBOSE.
func (r *run) turnVerbose() refusal {
	r.verbose = !r.verbose
	return refusal{}
}

// eventsOf is one event of each name.
func eventsOf(what byte, names ...string) []api.Event {
	events := make([]api.Event, len(names))
	for i, name := range names {
		events[i] = api.Event{What: what, Name: name}
	}
	return events
}
