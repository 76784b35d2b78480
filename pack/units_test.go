package pack_test

import (
	"slices"
	"testing"

	"shelf/api"
	"shelf/pack"
	"shelf/syms"
)

// wantUnits wants just these units of the members.
func wantUnits(t *testing.T, list []api.Member, want ...api.Unit) {
	t.Helper()
	got := pack.Units(list)
	if !slices.EqualFunc(got, want, func(u, v api.Unit) bool { return u.Spec == v.Spec && slices.Equal(u.Syms, v.Syms) }) {
		t.Errorf("Units(%s): %s, want %s", short(list), few(got), few(want))
	}
}

// 12.1: object files of every class and order, names several times in one of them and in several.
func TestUnitsOfObjects(t *testing.T) {
	var list []api.Member
	var want []api.Unit
	for _, m := range machines() {
		b := m.object(offered("g", "f", "g", "\xff b", "f")...)
		list = append(list, member("a.o", b), member("b.o", m.object(offered("f")...)))
		want = append(want, unit("a.o", len(b), "g", "f", "g", "\xff b", "f"), unit("b.o", len(m.object(offered("f")...)), "f"))
	}
	wantUnits(t, list, want...)
}

// 12.1: which symbols count: global and weak ones, defined, with a name.
func TestUnitsOfSymbols(t *testing.T) {
	for _, m := range machines() {
		b := m.object(symbol{"local", 0, 1}, symbol{"weak", 2, 1}, symbol{"needed", 1, 0}, symbol{"", 1, 1}, symbol{"common", 1, 0xfff2}, symbol{"other", 10, 1}, symbol{"global", 1, 2})
		wantUnits(t, members(member("a", b)), unit("a", len(b), "weak", "common", "global"))
	}
}

// 12.1: members that are no object files, and spoilt ones: a unit without symbols each.
func TestUnitsWithoutSymbols(t *testing.T) {
	for _, data := range []string{"", "x", "text\n", "\x7fELF", "!<arch>\n", "\x00"} {
		wantUnits(t, members(member("a", data), member("b", defines("f")), member("a", data)), unit("a", len(data)), unit("b", len(defines("f")), "f"), unit("a", len(data)))
	}
	for _, m := range machines() {
		b := m.object(offered("f", "g")...)
		for n := range len(b) {
			wantUnits(t, members(member("cut", b[:n])), unit("cut", n))
		}
		wantUnits(t, members(member("longer", b+"x")), unit("longer", len(b)+1, "f", "g"))
		for at := range len(b) {
			spoilt := b[:at] + string([]byte{b[at] ^ 0xff}) + b[at+1:]
			wantUnits(t, members(member("spoilt", spoilt)), unit("spoilt", len(b), syms.Globals(spoilt)...))
		}
	}
	wantUnits(t, nil)
	wantUnits(t, []api.Member{})
}

// 12.1: the size is the member's own, and a name is taken as it is; nothing else of a member is looked at.
func TestUnitsAsTheyAre(t *testing.T) {
	for _, size := range []int{0, -1, 1, 9999999999, 10000000000} {
		for _, name := range []string{"", "/", "a/b", "\x00", "a b", letters(100)} {
			m := api.Member{Meta: api.Meta{Date: -1, UID: -2, GID: 1 << 40, Mode: -1}, Name: name, Size: size, Data: defines("f")}
			wantUnits(t, members(m, m), unit(name, size, "f"), unit(name, size, "f"))
		}
	}
}
