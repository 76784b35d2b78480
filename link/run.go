package link

import (
	"strings"

	"shelf/api"
	"shelf/arc"
	"shelf/fetch"
	"shelf/text"
	"shelf/vfs"
)

// refusal is the name at which a run ends, and why; with OK it does not end.
type refusal struct {
	name string
	code api.Errno
}

// told is what a run answers that ends here.
func (no refusal) told() api.Result {
	msg := "ld: " + text.Quote(no.name) + ": " + no.code.Error() + "\n"
	return api.Result{Msg: msg, Code: no.code}
}

// libraryIn reads and opens the archive of this name.
func libraryIn(fs *vfs.FS, name string) (api.Library, refusal) {
	data, e := fetch.File(fs, name)
	if e != api.OK {
		return api.Library{}, refusal{name, e}
	}
	p, _, e := arc.Parse(data)
	if e != api.OK {
		return api.Library{}, refusal{name, e}
	}
	if p.Kind == api.Thin {
		if no := fill(fs, p.Members); no.code != api.OK {
			return api.Library{}, no
		}
	}
	lib, e := Open(p)
	return lib, refusal{name, e}
}

// fill gives a thin archive's members the bytes of their files.
func fill(fs *vfs.FS, list []api.Member) refusal {
	for i, m := range list {
		data, e := fetch.Member(fs, m)
		if e != api.OK {
			return refusal{m.Name, e}
		}
		list[i].Data = data
	}
	return refusal{}
}

// told is what a run answers whose link has come so far.
func told(st api.Link, archives []string, list []catalog) api.Result {
	var out strings.Builder
	for _, place := range st.Pulled {
		c := list[place.Lib]
		member := c.Names[c.members[place.At]]
		out.WriteString(text.Quote(archives[place.Lib]) + "(" + text.Quote(member) + ")\n")
	}
	for _, name := range st.Wanted {
		out.WriteString("undefined: " + text.Quote(name) + "\n")
	}
	code := api.OK
	if len(st.Wanted) > 0 {
		code = api.ErrNone
	}
	return api.Result{Out: out.String(), Code: code}
}
