package pack_test

import (
	"slices"
	"testing"

	"shelf/api"
)

// 12.2, point 1: kinds that are none and thresholds that are none, whatever else is wrong.
func TestNoKindNoThreshold(t *testing.T) {
	for _, list := range [][]api.Unit{nil, units(unit("a", 3)), units(unit("a", 3, "f")), units(unit("a/b", -1, ""))} {
		for _, kind := range noKinds() {
			for _, wide := range append(noThresholds(), 1, wide32) {
				wantNoPlan(t, kind, list, wide, api.ErrRange)
			}
		}
		for _, kind := range kinds() {
			for _, wide := range noThresholds() {
				wantNoPlan(t, kind, list, wide, api.ErrRange)
			}
		}
	}
}

// 12.2, points 3 and 4: names of symbols that are none, in every unit.
func TestNamesOfSymbols(t *testing.T) {
	for _, kind := range kinds() {
		for _, name := range []string{"", "\x00", "f\x00", "\x00f", "f\x00g"} {
			for place := range 3 {
				for _, names := range [][]string{{name}, {name, "f"}, {"f", name}} {
					list := units(unit("a", 1, "f"), unit("b", 2), unit("c", 3, "go"))
					list[place].Syms = names
					wantNoPlan(t, kind, list, wide32, api.ErrName)
				}
			}
		}
		odd := units(unit("a", 1, "/", " ", "\n", "\xff", "a/b"))
		p, _ := modelPlan(kind, odd, wide32)
		wantPlan(t, kind, odd, wide32, p)
	}
}

// 12.2, points 2 to 4: what chapter 10 refuses is refused with symbols and without.
func TestRefusalsOfTheLayout(t *testing.T) {
	for _, kind := range kinds() {
		for place := range 3 {
			for _, names := range [][]string{nil, {"f"}} {
				list := units(unit("a", 1), unit("b", 2), unit("c", 3))
				list[1].Syms = names
				for _, name := range []string{"", "/", "a/", "\x00", letters(20) + "/"} {
					list[place].Name = name
					wantNoPlan(t, kind, list, wide32, api.ErrName)
				}
				list[place].Name = letters(20)
				for _, size := range []int{-1, maxSize + 1} {
					list[place].Size = size
					wantNoPlan(t, kind, list, wide32, api.ErrSize)
				}
			}
		}
		if kind == api.BSD {
			wantNoPlan(t, kind, units(unit("a b", maxSize-2)), wide32, api.ErrSize)
			wantNoPlan(t, kind, units(unit("a b", maxSize-2, "f")), wide32, api.ErrSize)
			wantPlan(t, kind, units(unit("a b", maxSize-3, "f")), wide32, plan([]int{86}, 0, 86+60+maxSize+1, api.IndexBSD, 18))
		}
	}
}

// 12.2: more units than there may be, with symbols and without.
func TestManyUnits(t *testing.T) {
	list := slices.Repeat(units(unit("a", 0)), maxMembers+1)
	for _, kind := range kinds() {
		wantNoPlan(t, kind, list, wide32, api.ErrRange)
		wantNoPlan(t, kind, slices.Concat(list[1:], units(unit("a", 0, "f"))), 1, api.ErrRange)
		wantNoPlan(t, kind, slices.Concat(units(unit("a", 0, "f")), list[1:]), wide32, api.ErrRange)
		most := slices.Concat(list[2:], units(unit("a", 0, "f")))
		narrow := map[api.Kind]api.Form{api.GNU: api.Index32, api.Thin: api.Index32, api.BSD: api.IndexBSD}[kind]
		wantPlan(t, kind, most, wide32, layouts(t, kind, most)[narrow])
	}
}

// wrong is something that Plan refuses, in the chapter's order.
type wrong struct {
	e  api.Errno
	do func(kind *api.Kind, list *[]api.Unit, wide *int)
}

// wrongs are those of Plan. Without symbols those that ask for some are let go.
func wrongs() []wrong {
	return []wrong{
		{api.ErrRange, func(kind *api.Kind, _ *[]api.Unit, _ *int) { *kind = 3 }},
		{api.ErrRange, func(_ *api.Kind, _ *[]api.Unit, wide *int) { *wide = wide32 + 1 }},
		{api.ErrName, func(_ *api.Kind, list *[]api.Unit, _ *int) { (*list)[2].Syms = []string{"f", ""} }},
		{api.ErrRange, func(_ *api.Kind, list *[]api.Unit, _ *int) {
			*list = append(*list, slices.Repeat(units(unit("a", 0)), maxMembers-2)...)
		}},
		{api.ErrName, func(_ *api.Kind, list *[]api.Unit, _ *int) { (*list)[1].Name = "a/b" }},
		{api.ErrSize, func(_ *api.Kind, list *[]api.Unit, _ *int) { (*list)[0].Size = -1 }},
		{api.ErrFar, func(_ *api.Kind, list *[]api.Unit, wide *int) {
			if *wide <= wide32 {
				*wide = 1
			}
			(*list)[1].Syms = []string{"f"}
		}},
	}
}

// 12.2: a wrong of each sort in every set of them: the first one is told.
func TestSetsOfWrongs(t *testing.T) {
	points := wrongs()
	for set := 1; set < 1<<len(points); set++ {
		for _, kind := range kinds() {
			list, wide, first := units(unit("a", 1), unit("b", 2), unit("c", 3)), wide32, api.OK
			is := kind
			for i, w := range points {
				if set>>i&1 == 0 {
					continue
				}
				w.do(&is, &list, &wide)
				if first == api.OK && (w.e != api.ErrFar || kind == api.BSD) {
					first = w.e
				}
			}
			if first != api.OK {
				wantNoPlan(t, is, list, wide, first)
			}
		}
	}
}

// fault is something that Build refuses, in the chapter's order.
type fault struct {
	e    api.Errno
	do   func(c *call)
	late bool // not looked at if the archive is bare
}

// call is what Build is given.
type call struct {
	kind  api.Kind
	list  []api.Member
	stamp int
	wide  int
}

// faults are those of Build of members with symbols. Too many members are not among them: they would be made for every set.
func faults(kind api.Kind) []fault {
	list := []fault{
		{api.ErrRange, func(c *call) { c.kind = -1 }, false},
		{api.ErrRange, func(c *call) { c.wide = 0 }, true},
		{api.ErrName, func(c *call) { c.list[1].Name = "" }, false},
		{api.ErrSize, func(c *call) { c.list[0].Size = maxSize + 1 }, false},
		{api.ErrWide, func(c *call) { c.stamp = -1 }, true},
		{api.ErrWide, func(c *call) { c.list[0].GID = -1 }, false},
	}
	if kind != api.Thin {
		list = slices.Insert(list, 4, fault{api.ErrSize, func(c *call) { c.list[1].Size++ }, false})
	}
	if kind == api.BSD {
		list = slices.Insert(list, 4, fault{api.ErrFar, func(c *call) { c.wide = min(c.wide, 1) }, true})
	}
	return list
}

// 12.4: too many members, and one wrong besides: both of the wrongs ahead of it have its number, so it is told always.
func TestManyMembersAndFaults(t *testing.T) {
	for _, kind := range kinds() {
		for _, w := range faults(kind) {
			for _, bare := range []bool{false, true} {
				c := call{kind, slices.Repeat(members(member("a", defines("f"))), maxMembers+1), 5, wide32}
				w.do(&c)
				wantNoBuild(t, c.kind, c.list, c.stamp, c.wide, bare, api.ErrRange)
			}
		}
	}
}

// 12.4: a wrong of each sort in every set of them, bare or not: the first one is told.
func TestSetsOfFaults(t *testing.T) {
	for _, kind := range kinds() {
		points := faults(kind)
		for set := 1; set < 1<<len(points); set++ {
			for _, bare := range []bool{false, true} {
				c := call{kind, members(member("a", defines("f")), member("b", "x")), 5, wide32}
				first := api.OK
				for i, w := range points {
					if set>>i&1 == 0 {
						continue
					}
					w.do(&c)
					if first == api.OK && !(bare && w.late) {
						first = w.e
					}
				}
				if first != api.OK {
					wantNoBuild(t, c.kind, c.list, c.stamp, c.wide, bare, first)
				} else {
					built(t, c.kind, c.list, c.stamp, c.wide, bare)
				}
			}
		}
	}
}
