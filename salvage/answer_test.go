package salvage_test

import (
	"fmt"
	"slices"
	"testing"

	"shelf/api"
	"shelf/salvage"
)

// 22.5: Form, Index and Stamp are those of the index that was taken; of one that was not taken nothing is told.
func TestIndexAndStamp(t *testing.T) {
	for _, x := range []struct {
		field, member string
		kind          api.Kind
		form          api.Form
	}{{"/", "a/", api.GNU, api.Index32}, {"/SYM64/", "a/", api.GNU, api.Index64}, {"__.SYMDEF", "a", api.BSD, api.IndexBSD}} {
		index := head(x.field, api.Meta{Date: 77, UID: 1, GID: 2, Mode: 3}, 4) + "idx!"
		for _, junk := range []string{"", "x", xs, h("/x", 0)} {
			var damages []api.Damage
			if junk != "" {
				damages = lost(bad(8, len(junk), api.ErrTail))
			}
			if junk == h("/x", 0) {
				damages[0].Code = api.ErrName
			}
			p := parsed(x.kind, x.form, "idx!", at(72+len(junk), "a", ""))
			p.Stamp = 77
			wantRead(t, regular+junk+index+h(x.member, 0), p, damages)
		}
		p := parsed(x.kind, api.NoIndex, "", at(8, "a", ""))
		wantRead(t, regular+h(x.member, 0)+index, p, lost(bad(68, 64, api.ErrPlace)))
		odd := head(x.field, api.Meta{Date: 77}, 5) + "idx!"
		p = parsed(x.kind, api.NoIndex, "", at(72, "a", ""))
		wantRead(t, regular+odd+h(x.member, 0), p, lost(bad(8, 64, api.ErrPad)))
	}
	wantRead(t, regular+head("/", api.Meta{Date: 9}, 0), api.Parsed{Archive: api.Archive{Form: api.Index32, Stamp: 9}}, nil)
	wantRead(t, regular+head("//", api.Meta{Date: 9}, 0), gnu(), nil)
	wantRead(t, regular+head("a/", api.Meta{Date: 9}, 0), gnu(placed{8, api.Member{Meta: api.Meta{Date: 9}, Name: "a"}}), nil)
}

// 22.5: the content of the index is told as it stands, the table is not.
func TestIndexAsItStands(t *testing.T) {
	for _, data := range []string{"", "x", "\x00\x00\x00\x01", "no index at all", h("a/", 0)} {
		wantRead(t, regular+whole("/", data)+xs, parsed(api.GNU, api.Index32, data), lost(bad(68+len(data)+len(data)%2, 60, api.ErrTail)))
		wantRead(t, regular+whole("//", data)+xs, gnu(), lost(bad(68+len(data)+len(data)%2, 60, api.ErrTail)))
	}
}

// 22.5: the damage of a missing magic is told without a byte, too; no other one is.
func TestDamageWithoutBytes(t *testing.T) {
	for _, b := range []string{"", h("a/", 0), whole("/", "x") + h("a/", 0), h("a", 0) + xs + h("b", 0)} {
		_, damages := salvage.Read(b)
		if len(damages) == 0 || damages[0] != bad(0, 0, api.ErrMagic) || slices.ContainsFunc(damages[1:], func(d api.Damage) bool { return d.Len < 1 }) {
			t.Errorf("Read(%q): %v", b, damages)
		}
	}
}

// 22.5, R4: the lists are new memory.
func TestNewMemory(t *testing.T) {
	for seed := range 300 {
		b := newDice(seed).file()
		p, damages := salvage.Read(b)
		want, wantDamages := toldRead(b)
		other, otherDamages := salvage.Read(b)
		for i := range other.Members[:cap(other.Members)] {
			other.Members[:cap(other.Members)][i] = mem("spoilt", "spoilt")
		}
		for i := range other.At[:cap(other.At)] {
			other.At[:cap(other.At)][i] = -1
		}
		for i := range otherDamages[:cap(otherDamages)] {
			otherDamages[:cap(otherDamages)][i] = bad(-1, -1, -1)
		}
		if !sameParsed(p, want) || !slices.Equal(damages, wantDamages) {
			t.Fatalf("%s: Read(%q) changed behind a later answer", fmt.Sprint("seed ", seed), b)
		}
	}
}
