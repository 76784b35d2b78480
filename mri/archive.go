package mri

import (
	"cmp"

	"shelf/api"
	"shelf/arc"
	"shelf/commit"
	"shelf/files"
	"shelf/ops"
	"shelf/pack"
	"shelf/show"
)

// archiveMode is the mode of an archive that is saved.
const archiveMode = 0o644

// archive is an archive in memory.
type archive struct {
	name    string
	kind    api.Kind
	members []api.Member
}

// create carries out CREATE. What stands in a file of that name is not asked for: a SAVE takes its place.
func (r *run) create(name string) refusal {
	if no := named(name); no.code != api.OK {
		return no
	}
	r.open = &archive{name: name, kind: api.GNU}
	return refusal{}
}

// openFile carries out OPEN.
func (r *run) openFile(name string) refusal {
	a, no := r.loadRegular(name)
	if no.code != api.OK {
		return no
	}
	r.open = a
	return refusal{}
}

// addMembers carries out ADDLIB.
func (r *run) addMembers(name string, names []string) refusal {
	a, no := r.loadRegular(name)
	if no.code != api.OK {
		return no
	}
	list, no := a.meant(names)
	if no.code != api.OK {
		return no
	}
	r.open.add(list)
	r.tell(eventsOf('q', namesOf(list)...))
	return refusal{}
}

// directory carries out DIRECTORY.
func (r *run) directory(name string, names []string) refusal {
	a, no := r.load(name)
	if no.code != api.OK {
		return no
	}
	list, no := a.meant(names)
	if no.code != api.OK {
		return no
	}
	r.out.WriteString(show.List(list, r.verbose))
	return refusal{}
}

// list carries out LIST.
func (r *run) list() refusal {
	r.out.WriteString(show.List(r.open.members, true))
	return refusal{}
}

// remove carries out DELETE.
func (r *run) remove(names []string) refusal {
	list, name, e := ops.Delete(r.open.members, names)
	if e != api.OK {
		return refusal{name, e}
	}
	r.open.members = list
	r.tell(eventsOf('d', names...))
	return refusal{}
}

// removeAll carries out CLEAR.
func (r *run) removeAll() refusal {
	r.open.members = nil
	return refusal{}
}

// save carries out SAVE.
func (r *run) save() refusal {
	a := r.open
	threshold := cmp.Or(r.env.Wide, api.Wide32)
	data, e := pack.Build(a.kind, a.members, r.env.Now, threshold, false)
	if e != api.OK {
		return refusal{a.name, e}
	}
	err := commit.Replace(r.fs, a.name, data, r.metaOf(archiveMode))
	return refusal{a.name, files.Code(err)}
}

// load reads an archive that a script names.
func (r *run) load(name string) (*archive, refusal) {
	if no := named(name); no.code != api.OK {
		return nil, no
	}
	data, there, err := commit.Load(r.fs, name)
	if err != nil {
		return nil, refusal{name, files.Code(err)}
	}
	if !there {
		return nil, refusal{name, api.ErrMissing}
	}
	p, _, e := arc.Parse(data)
	if e != api.OK {
		return nil, refusal{name, e}
	}
	return &archive{name: name, kind: p.Kind, members: p.Members}, refusal{}
}

// loadRegular reads an archive whose members' data are wanted: a thin one has none.
func (r *run) loadRegular(name string) (*archive, refusal) {
	a, no := r.load(name)
	if no.code != api.OK {
		return nil, no
	}
	if a.kind == api.Thin {
		return nil, refusal{name, api.ErrKind}
	}
	return a, refusal{}
}

// meant are the members of these names, in the names' order; without names all.
func (a *archive) meant(names []string) ([]api.Member, refusal) {
	if len(names) == 0 {
		return a.members, refusal{}
	}
	numbers, missing := ops.Select(a.members, names)
	if len(missing) > 0 {
		return nil, refusal{missing[0], api.ErrNoMember}
	}
	list := make([]api.Member, len(numbers))
	for i, number := range numbers {
		list[i] = a.members[number]
	}
	return list, refusal{}
}

// add puts members behind the others. It is what ops.Append answers, without a copy of all that is there: a script may add thousands one by one.
func (a *archive) add(in []api.Member) {
	a.members = append(a.members, in...)
}

func namesOf(list []api.Member) []string {
	names := make([]string, len(list))
	for i, m := range list {
		names[i] = m.Name
	}
	return names
}
