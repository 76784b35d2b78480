package nm

import (
	"strings"

	"shelf/api"
	"shelf/arc"
	"shelf/elf"
	"shelf/fetch"
	"shelf/text"
	"shelf/vfs"
)

// run is a command that is being carried out.
type run struct {
	api.NmOpts
	fs   *vfs.FS
	out  strings.Builder // what was told so far
	msg  strings.Builder // what was said so far
	code api.Errno       // of the first member of which something was said
}

// refusal is the name at which a run ends, and why; with OK it does not end.
type refusal struct {
	name string
	code api.Errno
}

// tellFiles tells files in order, up to the first one that is refused.
func (r *run) tellFiles(names []string) refusal {
	for _, name := range names {
		data, e := fetch.File(r.fs, name)
		if e != api.OK {
			return refusal{name, e}
		}
		if len(names) > 1 {
			r.tellHeading(name)
		}
		if no := r.tellFile(name, data); no.code != api.OK {
			return no
		}
	}
	return refusal{}
}

// tellFile tells what a file of these bytes has.
func (r *run) tellFile(name, data string) refusal {
	if !isArchive(data) {
		e := r.tellSymbols(data, name)
		return refusal{name, e}
	}
	p, _, e := arc.Parse(data)
	if e != api.OK {
		return refusal{name, e}
	}
	if e := r.tellIndex(p); e != api.OK {
		return refusal{name, e}
	}
	return r.tellMembers(name, p)
}

// isArchive: is it meant to be one, sound or not?
func isArchive(data string) bool {
	return strings.HasPrefix(data, api.MagicRegular) || strings.HasPrefix(data, api.MagicThin)
}

// tellHeading tells whose rows come next, unless each row tells it.
func (r *run) tellHeading(name string) {
	if !r.Prefix {
		r.out.WriteString("\n" + text.Quote(name) + ":\n")
	}
}

// tellSymbols tells the rows of an object file; the names lead to it.
func (r *run) tellSymbols(data string, names ...string) api.Errno {
	rows, e := Rows(data)
	if e != api.OK {
		return e
	}
	class, _, _ := elf.Ident(data) // no refusal, as there are rows
	r.out.WriteString(Text(Sort(rows, r.NmOpts), class, r.prefixOf(names)))
	return api.OK
}

// prefixOf is what stands ahead of each row of what these names lead to.
func (r *run) prefixOf(names []string) string {
	prefix := ""
	if r.Prefix {
		for _, name := range names {
			prefix += text.Quote(name) + ":"
		}
	}
	return prefix
}

// say adds a line to the message: what it is about, and why.
func (r *run) say(what string, code api.Errno) {
	r.msg.WriteString("nm: " + what + code.Error() + "\n")
}

// answer is what a run answers that ends here.
func (r *run) answer(no refusal) api.Result {
	code := r.code
	if no.code != api.OK {
		code = no.code
		r.sayRefusal(no)
	}
	return api.Result{Out: r.out.String(), Msg: r.msg.String(), Code: code}
}

func (r *run) sayRefusal(no refusal) {
	what := ""
	if no.name != "" {
		what = text.Quote(no.name) + ": "
	}
	r.say(what, no.code)
}
