package nm

import (
	"slices"
	"strings"

	"shelf/api"
	"shelf/fetch"
	"shelf/index"
	"shelf/text"
)

// tellIndex tells an archive's index, if that is asked for and there is one.
func (r *run) tellIndex(p api.Parsed) api.Errno {
	if !r.Index || p.Form == api.NoIndex {
		return api.OK
	}
	entries, e := index.Decode(p.Form, p.Index)
	if e != api.OK {
		return e
	}
	var lines strings.Builder // kept back until each entry is known to lead to a member
	for _, entry := range entries {
		number, there := slices.BinarySearch(p.At, entry.At) // members' places go up, as they are read from the left
		if !there {
			return api.ErrIndex
		}
		lines.WriteString(text.Quote(entry.Name) + " in " + text.Quote(p.Members[number].Name) + "\n")
	}
	r.out.WriteString("Archive index:\n" + lines.String() + "\n")
	return api.OK
}

// tellMembers tells an archive's members in order. One that has no rows is said, and does not end it; one whose data cannot be had does.
func (r *run) tellMembers(file string, p api.Parsed) refusal {
	for _, m := range p.Members {
		data, e := r.dataOf(p.Kind, m)
		if e != api.OK {
			return refusal{m.Name, e}
		}
		r.tellHeading(m.Name)
		if e := r.tellSymbols(data, file, m.Name); e != api.OK {
			r.sayMember(file, m.Name, e)
		}
	}
	return refusal{}
}

func (r *run) dataOf(kind api.Kind, m api.Member) (string, api.Errno) {
	if kind == api.Thin {
		return fetch.Member(r.fs, m)
	}
	return m.Data, api.OK
}

// sayMember says why a member has no rows; the first that is said gives the answer its code.
func (r *run) sayMember(file, member string, code api.Errno) {
	r.say(text.Quote(file)+"("+text.Quote(member)+"): ", code)
	if r.code == api.OK {
		r.code = code
	}
}
