package coff_test

import (
	"strings"
	"testing"

	"shelf/api"
	"shelf/coff"
)

// 23.9: all that is told of an archive.
func TestReadAnswer(t *testing.T) {
	f, g := "it has f", "it has g and f"
	begin := 8 + 60 + 22 + 60 + 32 + 60 + 18
	at := ats(begin, begin+60+len(f), begin+60+len(f)+60+len(g))
	old := first(pair("g", at[1]), pair("f", at[0]), pair("f", at[1]))
	new := second(at, []int{1, 2, 2}, "f", "f", "g")
	meta := func(n int) api.Meta { return api.Meta{Date: n, UID: n + 1, GID: n + 2, Mode: n + 3} }
	b := magic + head("/", meta(10), len(old)) + padded(old) + head("/", meta(20), len(new)) + padded(new) +
		head("//", meta(30), 17) + letters(16) + "\x00\n" +
		head("a.o/", meta(40), len(f)) + f + head("/3", meta(50), len(g)) + g + head("a.o/", meta(60), 3) + "odd\n"
	l := members(
		api.Member{Meta: meta(40), Name: "a.o", Size: len(f), Data: f},
		api.Member{Meta: meta(50), Name: letters(16)[3:], Size: len(g), Data: g},
		api.Member{Meta: meta(60), Name: "a.o", Size: 3, Data: "odd"})
	wantRead(t, b, parsed(old, 10, at, l), list(pair("f", at[0]), pair("f", at[1]), pair("g", at[1])))
}

// 23.9: the linker members' and the table's other numbers are let go.
func TestReadLetsGo(t *testing.T) {
	zero := api.Meta{}
	for _, m := range []api.Meta{zero, {Date: 999999999999}, {UID: 999999}, {GID: 999999}, {Mode: 0o77777777}, {Date: 1, UID: 2, GID: 3, Mode: 4}} {
		for _, other := range []api.Meta{zero, m} {
			b := magic + head("/", m, 4) + first() + head("/", other, 12) + second(ats(8+64+72+78), nil) + head("//", other, 17) + letters(16) + "\x00\n" + head("/0", own, 2) + "xy"
			wantRead(t, b, parsed(first(), m.Date, ats(222), members(member(letters(16), "xy"))), nil)
		}
	}
}

// 23.9: the index is the first linker member's data as they stand, with what stands behind their pairs.
func TestReadIndex(t *testing.T) {
	for _, behind := range []string{"", "\x00", "\x00\x00", strings.Repeat("\x00", 99)} {
		old := high4(0) + behind
		at := 8 + 60 + len(padded(old)) + 60 + 12
		wantRead(t, linked(old, second(ats(at), nil), whole("a/", "x")), parsed(old, 0, ats(at), members(mem("a", "x"))), nil)
		wantRead(t, linked(old, second(nil, nil)), parsed(old, 0, nil, nil), nil)
	}
}

// 23.9: what the linker members tell of symbols is taken as it stands: the members' data are not asked.
func TestReadAsksNoData(t *testing.T) {
	b, at := told(list(pair("f", 0)), list(pair("f", 0)))
	begin := at + 60 + 20
	wantRead(t, b, parsed(first(pair("f", begin)), 0, ats(begin, begin+62), members(mem("a", "x"), mem("b", "xy"))), list(pair("f", begin)))
	b = linked(first(), second(ats(144), nil), whole("a/", defines("f")))
	wantRead(t, b, parsed(first(), 0, ats(144), members(mem("a", defines("f")))), nil)
}

// 23.9, 23.4: more members than Build takes.
func TestReadMoreThanAreBuilt(t *testing.T) {
	const count = 65540
	var at []int
	begin := 8 + 60 + 16 + 60 + 8 + 4*count + 2*1 + 2
	for i := range count {
		at = append(at, begin+60*i)
	}
	old := first(pair("f", at[65534])) + "\x00\x00\x00\x00\x00\x00"
	b := linked(old, second(at, []int{65535}, "f"), strings.Repeat(h("a/", 0), count))
	p, l, place, e := coff.Read(b)
	if e != api.OK || place != 0 || len(p.Members) != count || len(p.At) != count || p.At[count-1] != len(b)-60 || len(l) != 1 || l[0] != pair("f", at[65534]) {
		t.Errorf("%d members, %d places, %v, %d at %d", len(p.Members), len(p.At), l, e, place)
	}
	wantNoBuild(t, p.Members, 0, api.ErrFar)
}

// R4: all lists are new memory each time, and share none with each other.
func TestReadNewMemory(t *testing.T) {
	b := archive(5, defining("a", "f", "g"), plain("b", "x"), defining("c", "f"))
	p, l, _, _ := coff.Read(b)
	wantP, wantL, _, _ := coff.Read(b)
	for i := range p.At[:cap(p.At)] {
		p.At[:cap(p.At)][i] = -1
	}
	for i := range p.Members[:cap(p.Members)] {
		p.Members[:cap(p.Members)][i] = api.Member{Name: "spoilt"}
	}
	for i := range l[:cap(l)] {
		l[:cap(l)][i] = pair("spoilt", -1)
	}
	if len(wantP.At) != 3 || len(wantL) != 3 || wantP.Members[0].Name != "a" || wantP.At[0] < 0 || wantL[0].Name != "f" {
		t.Errorf("what was read before is spoilt: %v, %v", wantP.At, wantL)
	}
	wantRead(t, b, wantP, wantL)
}

// R4: with several calls in turn what was answered stays as it was.
func TestBuildLeavesSpareRoom(t *testing.T) {
	l := members(member("a", defines("f")), member("b", "x"), member("spare", "y"))
	want := archive(5, defining("a", "f"), plain("b", "x"))
	for range 2 {
		if b, e := coff.Build(l[:2], 5); b != want || e != api.OK {
			t.Errorf("%q, %d", b, e)
		}
	}
	if l[2] != member("spare", "y") {
		t.Errorf("%v", l[2])
	}
}
