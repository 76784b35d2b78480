package salvage_test

import (
	"testing"

	"shelf/api"
)

// sortOf is a part of a Sort with nothing behind its header, and what it is as the first part of a regular archive.
type sortOf struct {
	field  string
	kind   api.Kind
	form   api.Form
	member string // its name; empty if it is special
}

// sorts are those that can stand first without a table and with data of no length.
func sorts() []sortOf {
	return []sortOf{
		{"/", api.GNU, api.Index32, ""}, {"/SYM64/", api.GNU, api.Index64, ""}, {"//", api.GNU, 0, ""}, {"a/", api.GNU, 0, "a"},
		{"__.SYMDEF", api.BSD, api.IndexBSD, ""}, {"a", api.BSD, 0, "a"},
	}
}

// members is what the part and one member behind it are told as.
func (s sortOf) members(place, next int, name string) []placed {
	if s.member == "" {
		return []placed{at(next, name, "")}
	}
	return []placed{at(place, s.member, ""), at(next, name, "")}
}

// 22.2: of a regular archive the first part that was taken tells the kind, whatever part it is, and whatever stands ahead of it.
func TestFirstPartTellsTheKind(t *testing.T) {
	for _, start := range []string{regular, regular + xs, regular + h("/x", 0), regular + "`\n", "", "rubbish", xs} {
		for _, s := range sorts() {
			for _, next := range sorts() {
				if next.member == "" {
					continue
				}
				place := len(start)
				b := start + h(s.field, 0) + h(next.field, 0)
				var damages []api.Damage
				if start == "" || start[0] != '!' {
					damages = lost(bad(0, place, api.ErrMagic))
				} else if place > 8 {
					damages = lost(bad(8, place-8, why(b)))
				}
				list := s.members(place, place+60, next.member)
				if next.kind != s.kind {
					damages = append(damages, bad(place+60, 60, api.ErrMixed))
					list = list[:len(list)-1]
				}
				wantRead(t, b, parsed(s.kind, s.form, "", list...), damages)
			}
		}
	}
}

// why is the refusal of what stands at 8.
func why(b string) api.Errno {
	_, e := toldStands(b, 8, nil)
	return e
}

// 22.2: the thin magic tells the kind, whatever stands first.
func TestThinMagicTellsTheKind(t *testing.T) {
	b := api.Thin
	wantRead(t, thin, parsed(b, 0, ""), nil)
	wantRead(t, thin+xs, parsed(b, 0, ""), lost(bad(8, 60, api.ErrTail)))
	for _, field := range []string{"a", "__.SYMDEF", "#1/0", "#1/2"} {
		wantRead(t, thin+h(field, 0), parsed(b, 0, ""), lost(bad(8, 60, api.ErrMixed)))
		wantRead(t, thin+h(field, 0)+h("b/", 9), parsed(b, 0, "", placed{68, away("b", 9)}), lost(bad(8, 60, api.ErrMixed)))
	}
	wantRead(t, thin+whole("/", "x")+h("b/", 9), parsed(b, api.Index32, "x", placed{70, away("b", 9)}), nil)
}

// 22.2: as long as nothing was taken there is no kind, so that a part of either kind may be the first, also behind damages; and then it has data.
func TestNoKindAtFirst(t *testing.T) {
	mixed := h("#1/3", 0) // a BSD name field whose name is not there
	wantRead(t, regular+mixed+h("a/", 0), gnu(at(68, "a", "")), lost(bad(8, 60, api.ErrName)))
	wantRead(t, regular+h("/0", 0)+h("a", 0), parsed(api.BSD, 0, "", at(68, "a", "")), lost(bad(8, 60, api.ErrTable)))
	wantRead(t, regular+h("/0", 0)+h("__.SYMDEF", 0)+h("a", 0), parsed(api.BSD, api.IndexBSD, "", at(128, "a", "")), lost(bad(8, 60, api.ErrTable)))
	wantRead(t, regular+h("a", 3)+"xy"+h("b/", 0), gnu(at(70, "b", "")), lost(bad(8, 62, api.ErrPad)))
	wantRead(t, "x"+whole("a", "xy")+h("b/", 0), parsed(api.BSD, 0, "", at(1, "a", "xy")), lost(bad(0, 1, api.ErrMagic), bad(63, 60, api.ErrMixed)))
}

// 22.2: the names are those of the table that was taken, and of none if none was.
func TestNamesOfTheTableThatWasTaken(t *testing.T) {
	table := whole("//", "d/\n")
	wantRead(t, regular+table+h("/0", 0), gnu(at(72, "d", "")), nil)
	wantRead(t, regular+h("/0", 0)+table+h("/0", 0), gnu(at(132, "d", "")), lost(bad(8, 60, api.ErrTable)))
	wantRead(t, regular+h("/0", 0), gnu(), lost(bad(8, 60, api.ErrTable)))
	wantRead(t, regular+h("c/", 0)+table+h("/0", 0)+h("e/", 0), gnu(at(8, "c", ""), at(192, "e", "")), lost(bad(68, 124, api.ErrPlace)))
	wantRead(t, regular+table+whole("//", "e/\n")+h("/0", 0), gnu(at(136, "d", "")), lost(bad(72, 64, api.ErrPlace)))
	wantRead(t, regular+xs+whole("/", "x")+xs+table+h("/0", 0), parsed(api.GNU, api.Index32, "x", at(254, "d", "")), lost(bad(8, 60, api.ErrTail), bad(130, 60, api.ErrTail)))
	wantRead(t, thin+table+xs+h("/0", 5), parsed(api.Thin, 0, "", placed{132, away("d", 5)}), lost(bad(72, 60, api.ErrTail)))
	wantRead(t, regular+setByte(table, 59, 'x')+h("/0", 0), gnu(), lost(bad(8, 124, api.ErrTail)))
}
