package pack_test

import (
	"runtime"
	"slices"
	"strings"
	"testing"

	"shelf/api"
	"shelf/pack"
)

// R4: lists that are handed in are as they were, their spare room too, whether they are taken or refused.
func TestListsAsTheyWere(t *testing.T) {
	for _, kind := range append(kinds(), 3) {
		for _, wide := range []int{0, 1, 100, wide32} {
			names := []string{"f", "go", "spare"}
			list := units(api.Unit{Spec: api.Spec{Name: "a", Size: 1}, Syms: names[:2]}, unit("b", 2), unit("spare", -1, ""))
			was, wasNames := slices.Clone(list), slices.Clone(names)
			pack.Plan(kind, list[:2], wide)
			if !slices.Equal(names, wasNames) || !slices.EqualFunc(list, was, func(u, v api.Unit) bool { return u.Spec == v.Spec && slices.Equal(u.Syms, v.Syms) }) {
				t.Errorf("kind %d, wide %d: Plan leaves %s, %q", kind, wide, few(list), names)
			}
			all := members(member("a", defines("f")), member("b", "x"), member("spare", defines("g")))
			wasAll := slices.Clone(all)
			pack.Units(all[:2])
			pack.Build(kind, all[:2], 5, wide, false)
			pack.Build(kind, all[:2], 5, wide, true)
			if !slices.Equal(all, wasAll) {
				t.Errorf("kind %d, wide %d: Units and Build leave %s", kind, wide, short(all))
			}
		}
	}
}

// spoilNames overwrites a list and its spare room.
func spoilNames(list []string) {
	list = list[:cap(list)]
	for i := range list {
		list[i] = "spoilt"
	}
}

// R4: no two lists that Units answers share memory, neither in one answer nor in two; members of the same bytes neither.
func TestUnitsOfTheirOwn(t *testing.T) {
	data := defines("f", "g", "h")
	list := members(member("a", data), member("b", data), member("c", data))
	first, second := pack.Units(list), pack.Units(list)
	spoilNames(first[1].Syms)
	for i := range first {
		if i != 1 && !slices.Equal(first[i].Syms, []string{"f", "g", "h"}) {
			t.Errorf("two lists of one answer share memory: %q", first[i].Syms)
		}
	}
	for i, u := range first[:cap(first)] {
		spoilNames(u.Syms)
		first[:cap(first)][i] = unit("spoilt", 0)
	}
	for i, u := range second {
		if u.Name != list[i].Name || !slices.Equal(u.Syms, []string{"f", "g", "h"}) {
			t.Errorf("two answers share memory: %s", few(second))
		}
	}
	list[0] = member("x", "")
	if second[0].Name != "a" {
		t.Errorf("the answer shares memory with the members")
	}
}

// R4: Plan's places are a list of its own.
func TestPlacesOfTheirOwn(t *testing.T) {
	list := units(unit("a", 1, "f"), unit("b", 2))
	for _, kind := range kinds() {
		for _, wide := range []int{300, wide32} {
			p, _ := pack.Plan(kind, list, wide)
			q, _ := pack.Plan(kind, list, wide)
			was := slices.Clone(q.At)
			at := p.At[:cap(p.At)]
			for i := range at {
				at[i] = -1
			}
			r, _ := pack.Plan(kind, list, wide)
			if !slices.Equal(q.At, was) || !slices.Equal(r.At, was) {
				t.Errorf("kind %d: %v, %v, want %v", kind, q.At, r.At, was)
			}
		}
	}
}

// R2: the same answer whatever was asked before.
func TestAgain(t *testing.T) {
	list := members(member("a", defines("f")), member("b", "x"))
	for _, kind := range kinds() {
		b := built(t, kind, list, 5, wide32, false)
		wantNoBuild(t, kind, list, -1, wide32, false, api.ErrWide)
		built(t, kind, list[:1], 6, 1000, false)
		built(t, kind, list, 5, 1, true)
		if built(t, kind, list, 5, wide32, false) != b {
			t.Errorf("kind %d: another answer", kind)
		}
	}
}

// memory is how many bytes a call takes of it, whether or not it gives them back.
func memory(do func()) uint64 {
	var before, behind runtime.MemStats
	runtime.ReadMemStats(&before)
	do()
	runtime.ReadMemStats(&behind)
	return behind.TotalAlloc - before.TotalAlloc
}

// R1: symbols that share one long name take no memory for it before there is an index to write.
func TestSharedNames(t *testing.T) {
	name := strings.Repeat("x", 1<<20)
	list := units(unit("a", 1, slices.Repeat([]string{name}, 1000)...))
	for _, kind := range kinds() {
		if made := memory(func() { pack.Plan(kind, list, 1) }); made > 1<<20 {
			t.Errorf("kind %d: Plan takes %d bytes of memory", kind, made)
		}
	}
}

// R1: an object whose symbols' names all run into one: an index that no header's column can tell is refused before it is made.
func TestNamesThatRunIntoOne(t *testing.T) {
	const count, length = 11000, 1 << 20
	list := members(member("a.o", manyTails(count, length)))
	for _, kind := range kinds() {
		if made := memory(func() { wantNoBuild(t, kind, list, 5, wide32, false, api.ErrRange) }); made > 1<<26 {
			t.Errorf("kind %d: Build takes %d bytes of memory", kind, made)
		}
	}
}

// manyTails is an object that defines so many names, each the end of one long text.
func manyTails(count, length int) string {
	var table strings.Builder
	table.WriteString(mach.symbol(0, symbol{}))
	each := table.Len()
	for i := range count {
		table.WriteString(mach.symbol(1+i, symbol{"", 1, 1}))
	}
	texts := "\x00" + strings.Repeat("x", length) + "\x00"
	at := len(mach.header(0))
	behind := at + table.Len()
	return mach.header(behind+len(texts)) + table.String() + texts +
		mach.section(0, 0, 0, 0, 0) + mach.section(2, at, table.Len(), 2, each) + mach.section(3, behind, len(texts), 0, 0)
}
