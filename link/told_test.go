package link_test

import (
	"errors"
	"slices"

	"shelf/api"
	"shelf/arc"
	"shelf/index"
	"shelf/syms"
	"shelf/text"
	"shelf/vfs"
)

// toldOpen is 18.1 and 18.2, in the chapter's own words.
func toldOpen(p api.Parsed) (api.Library, api.Errno) {
	var lib api.Library
	if len(p.At) != len(p.Members) {
		return api.Library{}, api.ErrRange
	}
	if p.Form == api.NoIndex {
		for _, m := range p.Members {
			if len(syms.Globals(m.Data)) != 0 {
				return api.Library{}, api.ErrNoIndex
			}
		}
	} else {
		list, e := index.Decode(p.Form, p.Index)
		if e != api.OK {
			return api.Library{}, e
		}
		for _, x := range list {
			if !slices.Contains(p.At, x.At) {
				return api.Library{}, api.ErrIndex
			}
		}
		lib.Entries = list
	}
	for i, m := range p.Members {
		lib.At = append(lib.At, p.At[i])
		lib.Names = append(lib.Names, m.Name)
		lib.Defines = append(lib.Defines, syms.Globals(m.Data))
		lib.Needs = append(lib.Needs, syms.Needs(m.Data))
	}
	return lib, api.OK
}

// pulls is 18.3's (a) to (c): the member's number, or -1.
func pulls(lib api.Library, number int, st api.Link, x api.Entry) int {
	if !slices.Contains(st.Wanted, x.Name) || slices.Contains(st.Pulled, api.Place{Lib: number, At: x.At}) {
		return -1
	}
	return slices.Index(lib.At, x.At)
}

// pullIn is 18.3's 1 to 3.
func pullIn(lib api.Library, place api.Place, i int, st *api.Link) {
	st.Pulled = append(st.Pulled, place)
	if i < len(lib.Defines) {
		for _, name := range lib.Defines[i] {
			if !slices.Contains(st.Defined, name) {
				st.Defined = append(st.Defined, name)
			}
			st.Wanted = slices.DeleteFunc(st.Wanted, func(x string) bool { return x == name })
		}
	}
	if i < len(lib.Needs) {
		for _, name := range lib.Needs[i] {
			if !slices.Contains(st.Defined, name) && !slices.Contains(st.Wanted, name) {
				st.Wanted = append(st.Wanted, name)
			}
		}
	}
}

// toldPass is one pass of 18.4.
func toldPass(lib api.Library, number int, st *api.Link) bool {
	pulled := false
	for _, x := range lib.Entries {
		if i := pulls(lib, number, *st, x); i >= 0 {
			pullIn(lib, api.Place{Lib: number, At: x.At}, i, st)
			pulled = true
		}
	}
	return pulled
}

// toldSearch is 18.4.
func toldSearch(lib api.Library, number int, st api.Link) api.Link {
	out := copyLink(st)
	for toldPass(lib, number, &out) {
	}
	return out
}

// toldGroup is 18.5.
func toldGroup(libs []api.Library, st api.Link) api.Link {
	for {
		before := len(st.Pulled)
		for i, lib := range libs {
			st = toldSearch(lib, i, st)
		}
		if len(st.Pulled) == before {
			return copyLink(st)
		}
	}
}

// no is a refusal of a run.
func no(name string, code api.Errno) api.Result {
	return api.Result{Msg: "ld: " + text.Quote(name) + ": " + code.Error() + "\n", Code: code}
}

// codeOf is the Errno of a call.
func codeOf(err error) api.Errno {
	if f := (*api.FileError)(nil); errors.As(err, &f) {
		return f.Err
	}
	return api.OK
}

// toldThin is 18.6's 4: the data are put in, or the name and the code of the refusal.
func toldThin(f *vfs.FS, p api.Parsed) (string, api.Errno) {
	for i, m := range p.Members {
		if m.Size == 0 {
			continue
		}
		if m.Name == "ar.tmp~" {
			return m.Name, api.ErrReserved
		}
		data, err := f.ReadFile(m.Name)
		switch code := codeOf(err); {
		case code == api.ErrMissing, code == api.ErrFileName:
			return m.Name, api.ErrLost
		case code != api.OK:
			return m.Name, code
		case len(data) != m.Size:
			return m.Name, api.ErrStale
		}
		p.Members[i].Data = data
	}
	return "", api.OK
}

// toldRun is 18.6 and 18.7.
func toldRun(f *vfs.FS, root string, archives []string) api.Result {
	var libs []api.Library
	for _, n := range archives {
		if n == "ar.tmp~" {
			return no(n, api.ErrReserved)
		}
		data, err := f.ReadFile(n)
		if err != nil {
			return no(n, codeOf(err))
		}
		p, _, code := arc.Parse(data)
		if code != api.OK {
			return no(n, code)
		}
		if p.Kind == api.Thin {
			if m, code := toldThin(f, p); code != api.OK {
				return no(m, code)
			}
		}
		lib, code := toldOpen(p)
		if code != api.OK {
			return no(n, code)
		}
		libs = append(libs, lib)
	}
	var answer api.Result
	st := toldGroup(libs, api.Link{Wanted: []string{root}})
	for _, x := range st.Pulled {
		m := slices.Index(libs[x.Lib].At, x.At)
		answer.Out += text.Quote(archives[x.Lib]) + "(" + text.Quote(libs[x.Lib].Names[m]) + ")\n"
	}
	for _, name := range st.Wanted {
		answer.Out += "undefined: " + text.Quote(name) + "\n"
		answer.Code = api.ErrNone
	}
	return answer
}
