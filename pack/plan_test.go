package pack_test

import (
	"math"
	"slices"
	"strings"
	"testing"

	"shelf/api"
	"shelf/index"
	"shelf/lay"
	"shelf/pack"
)

// layouts are where everything stands in an archive of the kind by chapters 10 and 11, one for each form.
func layouts(t *testing.T, kind api.Kind, list []api.Unit) map[api.Form]api.Plan {
	t.Helper()
	var specs []api.Spec
	var names []string
	for _, u := range list {
		specs = append(specs, u.Spec)
		names = append(names, u.Syms...)
	}
	all := map[api.Form]api.Plan{}
	for _, form := range []api.Form{api.Index32, api.Index64, api.IndexBSD} {
		n, e := index.Size(form, names)
		if e != api.OK {
			t.Fatalf("Size(%d, %q): %d", form, names, e)
		}
		l, e := lay.Plan(kind, specs, n)
		if e != api.OK {
			t.Fatalf("Plan(%d, %v, %d): %d", kind, specs, n, e)
		}
		all[form] = api.Plan{Layout: l, Form: form, Index: n}
	}
	return all
}

// sets are lists of three units, for each set of units with symbols but the empty one; the sizes are such that paddings matter.
func sets() [][]api.Unit {
	var all [][]api.Unit
	for set := 1; set < 8; set++ {
		for _, names := range [][]string{{"f"}, {"go"}, {"f", "f", "main"}} {
			list := units(unit("a.o", 9), unit(letters(18)+" ", 0), unit("b", 3))
			for i := range list {
				if set>>i&1 == 1 {
					list[i].Syms = names
				}
			}
			all = append(all, list)
		}
	}
	return all
}

// 12.2: thresholds at, below and above the places of units with symbols and of those without, in each kind.
func TestThresholds(t *testing.T) {
	for _, kind := range kinds() {
		for _, list := range sets() {
			all := layouts(t, kind, list)
			for _, wide := range thresholdsAround(all) {
				wantForm(t, kind, list, wide, all)
			}
		}
	}
}

// thresholdsAround are those at, below and above every place of every layout, and those at the bounds.
func thresholdsAround(all map[api.Form]api.Plan) []int {
	list := []int{1, 2, wide32 - 1, wide32}
	for _, p := range all {
		for _, at := range append(p.At, p.Total) {
			list = append(list, at-1, at, at+1)
		}
	}
	slices.Sort(list)
	return slices.Compact(list)
}

// wantForm wants the plan that the narrow layout's last place of a unit with symbols calls for.
func wantForm(t *testing.T, kind api.Kind, list []api.Unit, wide int, all map[api.Form]api.Plan) {
	t.Helper()
	narrow, other := api.Index32, api.Index64
	if kind == api.BSD {
		narrow, other = api.IndexBSD, api.NoIndex
	}
	switch {
	case farthest(list, all[narrow].At) < wide:
		wantPlan(t, kind, list, wide, all[narrow])
	case other != api.NoIndex:
		wantPlan(t, kind, list, wide, all[other])
	default:
		wantNoPlan(t, kind, list, wide, api.ErrFar)
	}
}

// 12.2, point 2: without symbols there is no index, whatever the threshold.
func TestNoSymbols(t *testing.T) {
	list := units(unit("a.o", 9), unit(letters(18), 0), unit("b", 3))
	list[1].Syms = []string{}
	for _, wide := range []int{1, 2, 8, 9, 100, 1000, wide32 - 1, wide32} {
		wantPlan(t, api.GNU, list, wide, plan([]int{88, 158, 218}, 20, 282, api.NoIndex, 0))
		wantPlan(t, api.Thin, list, wide, plan([]int{96, 156, 216}, 28, 276, api.NoIndex, 0))
		wantPlan(t, api.BSD, list, wide, plan([]int{8, 78, 156}, 0, 220, api.NoIndex, 0))
		for _, kind := range kinds() {
			wantPlan(t, kind, nil, wide, plan(nil, 0, 8, api.NoIndex, 0))
			wantPlan(t, kind, []api.Unit{}, wide, plan(nil, 0, 8, api.NoIndex, 0))
		}
	}
}

// 12.2, point 3: the wide form is taken although its own places, and not the narrow one's, are what follows; the names' order and number are the units'.
func TestWideLayoutAnew(t *testing.T) {
	list := units(unit("a", 0, "f", "g"), unit("b", 0, "f"))
	wantPlan(t, api.GNU, list, 151, plan([]int{90, 150}, 0, 210, api.Index32, 22))
	wantPlan(t, api.GNU, list, 150, plan([]int{106, 166}, 0, 226, api.Index64, 38))
	wantPlan(t, api.Thin, list, 217, plan([]int{156, 216}, 6, 276, api.Index32, 22))
	wantPlan(t, api.Thin, list, 216, plan([]int{172, 232}, 6, 292, api.Index64, 38))
	wantPlan(t, api.BSD, list, 167, plan([]int{106, 166}, 0, 226, api.IndexBSD, 38))
	wantNoPlan(t, api.BSD, list, 166, api.ErrFar)
}

// 12.3: places around 2 to the 32 come out of sizes alone.
func TestFarPlaces(t *testing.T) {
	for _, more := range []int{-4, -3, -2, -1, 0, 1, 2} {
		even := more + more&1
		list := units(unit("a", wide32-138+more, "f"), unit("b", 5), unit("c", maxSize), unit("d", 7))
		wantPlan(t, api.GNU, list, wide32, plan([]int{78, wide32 + even, wide32 + even + 66, wide32 + even + 66 + 10000000060}, 0, wide32+even+66+10000000060+68, api.Index32, 10))
		list[1].Syms = []string{"g"}
		list[0].Size -= 6
		want := plan([]int{84, wide32 + even, wide32 + even + 66, wide32 + even + 66 + 10000000060}, 0, wide32+even+66+10000000060+68, api.Index32, 16)
		if even >= 0 {
			want = plan([]int{96, wide32 + even + 12, wide32 + even + 78, wide32 + even + 78 + 10000000060}, 0, wide32+even+78+10000000060+68, api.Index64, 28)
		}
		wantPlan(t, api.GNU, list, wide32, want)
		list[0].Size -= 12
		bsd := plan([]int{96, wide32 + even, wide32 + even + 66, wide32 + even + 66 + 10000000060}, 0, wide32+even+66+10000000060+68, api.IndexBSD, 28)
		if even >= 0 {
			wantNoPlan(t, api.BSD, list, wide32, api.ErrFar)
		} else {
			wantPlan(t, api.BSD, list, wide32, bsd)
		}
		list[1].Syms = nil
		list[0].Syms = []string{"f", "g"}
		wantPlan(t, api.BSD, list, wide32, bsd)
	}
}

// 12.3: the sizes of a thin archive's members move nothing.
func TestThinSizes(t *testing.T) {
	for _, size := range []int{0, 1, wide32, maxSize} {
		list := units(unit("a", size, "f"), unit("b", size, "g"))
		wantPlan(t, api.Thin, list, wide32, plan([]int{150, 210}, 6, 270, api.Index32, 16))
	}
}

// 12.3: as many of the largest units as there may be, and symbols in the last one alone.
func TestManyFarUnits(t *testing.T) {
	list := slices.Repeat(units(unit("a", maxSize)), maxMembers)
	p, e := pack.Plan(api.GNU, list, 1)
	if e != api.OK || p.Form != api.NoIndex || p.Total != 8+maxMembers*10000000060 {
		t.Fatalf("without symbols: form %d, Total %d, %d", p.Form, p.Total, e)
	}
	list[maxMembers-1].Syms = []string{"f"}
	p, e = pack.Plan(api.GNU, list, wide32)
	if e != api.OK || p.Form != api.Index64 || p.At[maxMembers-1] != 86+(maxMembers-1)*10000000060 {
		t.Errorf("GNU: form %d, Total %d, %d", p.Form, p.Total, e)
	}
	wantNoPlan(t, api.BSD, list, wide32, api.ErrFar)
	p, e = pack.Plan(api.Thin, list, wide32)
	if e != api.OK || p.Form != api.Index32 || p.At[maxMembers-1] != 8+70+60+3*maxMembers+60*(maxMembers-1) {
		t.Errorf("Thin: form %d, Total %d, %d", p.Form, p.Total, e)
	}
}

// longNames are as many bytes of good names, with an end for each, that share the memory of one.
func longNames(count, text int) []string {
	name := strings.Repeat("x", (text+count-1)/count)
	list := make([]string, count)
	for i := range list {
		list[i] = name[:(text+i)/count-1]
	}
	return list
}

// 12.2, 12.3: an index so long that it moves the first member out of reach by itself; and one that finds no room in its header's column, in the narrow form or in the wide one alone.
func TestLongIndexes(t *testing.T) {
	const count = 10000
	for _, x := range []struct {
		kind  api.Kind
		first int // how long the index is in the first form that is tried
		form  api.Form
		e     api.Errno
	}{
		{api.GNU, wide32 - 68 - 2, api.Index32, api.OK},
		{api.GNU, wide32 - 68, api.Index64, api.OK},
		{api.Thin, wide32 - 68 - 64 - 2, api.Index32, api.OK},
		{api.Thin, wide32 - 68 - 64, api.Index64, api.OK},
		{api.BSD, wide32 - 68 - 2, api.IndexBSD, api.OK},
		{api.BSD, wide32 - 68, 0, api.ErrFar},
		{api.GNU, maxSize - 1 - 4 - 4*count, api.Index64, api.OK},
		{api.GNU, maxSize + 1 - 4 - 4*count, 0, api.ErrRange},
		{api.Thin, maxSize + 1, 0, api.ErrRange},
		{api.BSD, maxSize - 1, 0, api.ErrFar},
		{api.BSD, maxSize + 1, 0, api.ErrRange},
	} {
		text := x.first - 4 - 4*count
		if x.kind == api.BSD {
			text = x.first - 8 - 8*count
		}
		list := units(unit("ab", 0, longNames(count, text)...))
		if x.e != api.OK {
			wantNoPlan(t, x.kind, list, wide32, x.e)
			continue
		}
		p, e := pack.Plan(x.kind, list, wide32)
		n, ahead := x.first, 68
		if x.form == api.Index64 {
			n += 4 + 4*count
		}
		if x.kind == api.Thin {
			ahead += 64
		}
		if e != api.OK || p.Form != x.form || p.Index != n || !slices.Equal(p.At, []int{ahead + n}) || p.Total != ahead+n+60 {
			t.Errorf("kind %d, an index of %d: %v, %d", x.kind, x.first, p, e)
		}
	}
}

// R1: a threshold and a kind of any bits are taken or refused.
func TestAnyThreshold(t *testing.T) {
	list := units(unit("a", 3, "f"))
	for shift := range 64 {
		for _, wide := range []int{1 << shift, 1<<shift - 1, 1<<shift + 1, -1 << shift, math.MaxInt >> shift} {
			for _, kind := range append(kinds(), noKinds()...) {
				p, e := modelPlan(kind, list, wide)
				if e != api.OK {
					wantNoPlan(t, kind, list, wide, e)
				} else {
					wantPlan(t, kind, list, wide, p)
				}
			}
		}
	}
}
