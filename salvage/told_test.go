package salvage_test

// The chapter's own words once more, as plainly as they can be written, to hold the package against.

import (
	"cmp"
	"slices"
	"strings"

	"shelf/api"
	heads "shelf/head"
	"shelf/names"
	"shelf/pack"
	"shelf/text"
)

// taken is a part that was taken.
type taken struct {
	api.Head
	at, end int
	sort    int
	name    string
	data    string
}

func isIndex(sort int) bool {
	return sort == api.FieldIndex || sort == api.FieldIndex64 || sort == api.FieldSymdef
}

func isTable(sort int) bool { return sort == api.FieldTable }

func isBSD(sort int) bool {
	return sort == api.FieldPlain || sort == api.FieldLong || sort == api.FieldSymdef
}

// toldKind is 22.2: the kind, and whether there is one.
func toldKind(b string, list []taken) (api.Kind, bool) {
	if strings.HasPrefix(b, api.MagicThin) {
		return api.Thin, true
	}
	if len(list) == 0 {
		return api.GNU, false
	}
	return names.KindOf(list[0].sort), true
}

// toldTable is 22.2: the names.
func toldTable(list []taken) string {
	for _, x := range list {
		if isTable(x.sort) {
			return x.data
		}
	}
	return ""
}

// toldStands is 22.3.
func toldStands(b string, p int, list []taken) (taken, api.Errno) {
	head, e := heads.Parse(b, p)
	if e != api.OK {
		return taken{}, e
	}
	field, e := names.Read(head.Name)
	if e != api.OK {
		return taken{}, e
	}
	x := taken{Head: head, at: p, sort: field.Sort}
	kind, known := toldKind(b, list)
	if known && isBSD(x.sort) != (kind == api.BSD) {
		return taken{}, api.ErrMixed
	}
	if isIndex(x.sort) && len(list) > 0 {
		return taken{}, api.ErrPlace
	}
	if isTable(x.sort) && slices.ContainsFunc(list, func(y taken) bool { return !isIndex(y.sort) }) {
		return taken{}, api.ErrPlace
	}
	ordinary := !isIndex(x.sort) && !isTable(x.sort)
	x.end = p + 60
	if !(ordinary && kind == api.Thin) {
		if x.end+x.Size > len(b) {
			return taken{}, api.ErrData
		}
		x.data = b[x.end:][:x.Size]
		x.end += x.Size
		if x.Size%2 == 1 {
			if !strings.HasPrefix(b[x.end:], "\n") {
				return taken{}, api.ErrPad
			}
			x.end++
		}
	}
	switch x.sort {
	case api.FieldShort, api.FieldPlain:
		x.name = field.Name
	case api.FieldRef:
		x.name, e = names.Look(toldTable(list), field.Num)
	case api.FieldLong:
		x.name, x.data, e = names.Inline(x.data, field.Num)
		x.Size = len(x.data)
	}
	return x, e
}

// toldParts is 22.4: the parts that are taken, and the damages.
func toldParts(b string) ([]taken, []api.Damage) {
	var list []taken
	var damages []api.Damage
	seek := func(from int) int {
		for p := from; p < len(b); p++ {
			if _, e := toldStands(b, p, list); e == api.OK {
				return p
			}
		}
		return len(b)
	}
	p := 8
	if !strings.HasPrefix(b, regular) && !strings.HasPrefix(b, thin) {
		p = seek(0)
		damages = append(damages, bad(0, p, api.ErrMagic))
	}
	for p < len(b) {
		x, e := toldStands(b, p, list)
		if e == api.OK {
			list = append(list, x)
			p = x.end
			continue
		}
		q := seek(p + 1)
		damages = append(damages, bad(p, q-p, e))
		p = q
	}
	return list, damages
}

// toldRead is 22.5.
func toldRead(b string) (api.Parsed, []api.Damage) {
	list, damages := toldParts(b)
	var p api.Parsed
	p.Kind, _ = toldKind(b, list)
	for _, x := range list {
		switch {
		case x.sort == api.FieldIndex:
			p.Form, p.Index, p.Stamp = api.Index32, x.data, x.Date
		case x.sort == api.FieldIndex64:
			p.Form, p.Index, p.Stamp = api.Index64, x.data, x.Date
		case x.sort == api.FieldSymdef:
			p.Form, p.Index, p.Stamp = api.IndexBSD, x.data, x.Date
		case !isTable(x.sort):
			p.Members = append(p.Members, api.Member{Meta: x.Meta, Name: x.name, Size: x.Size, Data: x.data})
			p.At = append(p.At, x.at)
		}
	}
	return p, damages
}

// toldRefusal is why 22.6 refuses to, as it is named.
func toldRefusal(to string) api.Errno {
	if to == temp {
		return api.ErrReserved
	}
	if to == "" || len(to) > 64 || strings.ContainsAny(to, "/\x00") {
		return api.ErrFileName
	}
	return api.OK
}

// toldRun is 22.6 on a volume with room enough, whose calls do not fail: the answer, how many calls, the files.
func toldRun(list files, from, to string, env api.Env) (api.Result, int, files) {
	refused := func(name string, e api.Errno, calls int) (api.Result, int, files) {
		return no(text.Quote(name), e), calls, list
	}
	if from == temp {
		return refused(from, api.ErrReserved, 0)
	}
	if e := toldRefusal(to); e != api.OK {
		return refused(to, e, 0)
	}
	if e := toldRefusal(from); e != api.OK {
		return refused(from, e, 1)
	}
	f, there := list[from]
	if !there {
		return refused(from, api.ErrMissing, 1)
	}
	p, damages := toldRead(f.data)
	b, e := pack.Build(p.Kind, p.Members, env.Now, cmp.Or(env.Wide, 1<<32), p.Kind == api.Thin)
	if e != api.OK {
		return refused(to, e, 1)
	}
	meta := api.Meta{Date: env.Now, UID: env.UID, GID: env.GID, Mode: 0o644}
	return telling(damages...), 6 + pieces(len(b)), list.without(temp).but(to, file{b, meta})
}
