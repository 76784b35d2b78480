package mri

import (
	"shelf/api"
	"shelf/files"
	"shelf/ops"
)

// each hands names to one function in order, up to the first that it refuses.
func each(names []string, do func(name string) refusal) refusal {
	for _, name := range names {
		if no := do(name); no.code != api.OK {
			return no
		}
	}
	return refusal{}
}

// named: may a script name these files?
func named(names ...string) refusal {
	return each(names, func(name string) refusal {
		return refusal{name, files.Refusal(name)}
	})
}

// addFiles carries out ADDMOD.
func (r *run) addFiles(names []string) refusal {
	in, no := r.newMembers(names)
	if no.code != api.OK {
		return no
	}
	r.open.add(in)
	r.tell(eventsOf('q', names...))
	return refusal{}
}

// replaceFiles carries out REPLACE.
func (r *run) replaceFiles(names []string) refusal {
	in, no := r.newMembers(names)
	if no.code != api.OK {
		return no
	}
	// At the end there is no other member to stand by that could be missing: it is never refused.
	list, events, _ := ops.Insert(r.open.members, in, api.Pos{Where: api.AtEnd}, false)
	r.open.members = list
	r.tell(events)
	return refusal{}
}

// newMembers are files as they go into an archive. All names are looked at ahead of the first file.
func (r *run) newMembers(names []string) ([]api.Member, refusal) {
	if no := named(names...); no.code != api.OK {
		return nil, no
	}
	var list []api.Member
	no := each(names, func(name string) refusal {
		m, e := r.newMember(name)
		list = append(list, m)
		return refusal{name, e}
	})
	return list, no
}

// newMember is a file as it goes into an archive.
func (r *run) newMember(name string) (api.Member, api.Errno) {
	info, err := r.fs.Stat(name)
	if err != nil {
		return api.Member{}, files.Code(err)
	}
	data, err := r.fs.ReadFile(name)
	if err != nil {
		return api.Member{}, files.Code(err)
	}
	return api.Member{Meta: info.Meta, Name: name, Size: len(data), Data: data}, api.OK
}

// extract carries out EXTRACT. The files' names are made durable behind the last one.
func (r *run) extract(names []string) refusal {
	list, no := r.open.meant(names)
	if no.code != api.OK {
		return no
	}
	for _, m := range list {
		if e := r.unpack(m); e != api.OK {
			return refusal{m.Name, e}
		}
		r.tell(eventsOf('x', m.Name))
	}
	err := r.fs.SyncDir()
	return refusal{r.open.name, files.Code(err)}
}

// unpack makes a file of a member. The open archive's own file is never written over by one.
func (r *run) unpack(m api.Member) api.Errno {
	if m.Name == api.TempName || m.Name == r.open.name {
		return api.ErrReserved
	}
	h, err := r.fs.Create(m.Name, r.metaOf(m.Mode))
	if err != nil {
		return files.Code(err)
	}
	err = files.Fill(h, m.Data)
	return files.Code(err)
}

// metaOf is the Meta of a file that the script makes.
func (r *run) metaOf(mode int) api.Meta {
	return api.Meta{Date: r.env.Now, UID: r.env.UID, GID: r.env.GID, Mode: mode}
}
