package lay_test

import (
	"math"
	"slices"
	"strings"
	"testing"

	"shelf/api"
	"shelf/lay"
)

const (
	maxSize    = 9999999999
	maxMembers = 65536
	maxTable   = 67108864
)

// noKinds are numbers of no kind; some would be one if they were cut to fewer bits.
func noKinds() []api.Kind {
	return []api.Kind{-1, 3, 4, 256, 257, 1 << 32, 1<<32 + 2, math.MinInt, math.MaxInt}
}

// 10.3: kinds that are none.
func TestPlanKinds(t *testing.T) {
	for _, kind := range noKinds() {
		wantNoPlan(t, kind, nil, -1, api.ErrRange)
		wantNoPlan(t, kind, specs(spec("a", 1)), 0, api.ErrRange)
	}
}

// 10.3: an index of every sort of length, with and without members behind it.
func TestPlanIndex(t *testing.T) {
	for _, kind := range kinds() {
		table, at := 0, 0
		if kind == api.Thin {
			table, at = 3, 64
		}
		for _, c := range []struct{ index, total int }{
			{-1, 8}, {0, 68}, {1, 70}, {2, 70}, {3, 72}, {4, 72}, {59, 128}, {60, 128}, {61, 130},
			{maxSize - 1, 8 + 60 + 9999999998}, {maxSize, 8 + 60 + 10000000000},
		} {
			wantPlan(t, kind, nil, c.index, nil, 0, c.total)
			wantPlan(t, kind, specs(spec("a", 0)), c.index, []int{c.total + at}, table, c.total+at+60)
		}
		for _, index := range []int{-2, -3, math.MinInt, maxSize + 1, maxSize + 2, 1 << 34, math.MaxInt, math.MaxInt - 1} {
			wantNoPlan(t, kind, nil, index, api.ErrRange)
			wantNoPlan(t, kind, specs(spec("a", 0)), index, api.ErrRange)
		}
	}
}

// 10.3: sizes around the bounds, at every place of a list.
func TestPlanSizes(t *testing.T) {
	for _, kind := range kinds() {
		for place := range 4 {
			list := often(4, spec("a", 0))
			for _, size := range []int{0, 1, 2, 3, maxSize - 1, maxSize} {
				list[place].Size = size
				l, e := lay.Plan(kind, list, -1)
				total := 8 + 4*60 + (size+1)/2*2
				if kind == api.Thin {
					total = 8 + 60 + 12 + 4*60
				}
				if e != api.OK || l.Total != total {
					t.Errorf("Plan(%d, %s): Total %d, %d, want %d", kind, few(list), l.Total, e, total)
				}
			}
			for _, size := range []int{-1, -2, math.MinInt, maxSize + 1, maxSize + 2, math.MaxInt, math.MaxInt - 60} {
				list[place].Size = size
				wantNoPlan(t, kind, list, -1, api.ErrSize)
			}
		}
	}
}

// 10.3: in BSD a name ahead of the data counts too, in the others none does.
func TestPlanNameAhead(t *testing.T) {
	for _, name := range []string{" ", "a b", "__.SYMDEF", letters(17), letters(18), letters(1000), strings.Repeat(" ", 16)} {
		n := len(name)
		wantPlan(t, api.BSD, specs(spec(name, maxSize-n)), -1, []int{8}, 0, 8+60+10000000000)
		wantPlan(t, api.BSD, specs(spec(name, maxSize-n-1)), -1, []int{8}, 0, 8+60+9999999998)
		wantNoPlan(t, api.BSD, specs(spec(name, maxSize-n+1)), -1, api.ErrSize)
		wantNoPlan(t, api.BSD, specs(spec("a", 0), spec(name, maxSize)), -1, api.ErrSize)
		wantNoPlan(t, api.BSD, specs(spec(name, math.MaxInt)), -1, api.ErrSize)
		wantNoPlan(t, api.BSD, specs(spec(name, -1)), -1, api.ErrSize)
		wantNoPlan(t, api.BSD, specs(spec(name, -n)), -1, api.ErrSize)
		table := 0
		if n > 15 {
			table = n + 2
		}
		at := 8
		if table > 0 {
			at += 60 + (table+1)/2*2
		}
		wantPlan(t, api.GNU, specs(spec(name, maxSize)), -1, []int{at}, table, at+60+10000000000)
		at = 8 + 60 + (n+3)/2*2
		wantPlan(t, api.Thin, specs(spec(name, maxSize)), -1, []int{at}, n+2, at+60)
	}
	for _, name := range []string{"a", letters(16), "__.SYMDE", "__.SYMDEF_"} {
		wantPlan(t, api.BSD, specs(spec(name, maxSize)), -1, []int{8}, 0, 8+60+10000000000)
	}
}

// 10.3: names that are none, at every place of a list.
func TestPlanNames(t *testing.T) {
	for _, kind := range kinds() {
		for place := range 4 {
			for _, name := range []string{"", "/", "a/", "/a", "a/b", "\x00", "a\x00", letters(20) + "/", letters(20) + "\x00"} {
				list := often(4, spec("a", 0))
				list[place].Name = name
				wantNoPlan(t, kind, list, -1, api.ErrName)
			}
		}
	}
}

// 10.3: lists around MaxMembers.
func TestPlanMembers(t *testing.T) {
	for _, kind := range kinds() {
		for _, n := range []int{maxMembers - 1, maxMembers} {
			l, e := lay.Plan(kind, often(n, spec("a", 2)), -1)
			total, table := 8+62*n, 0
			if kind == api.Thin {
				table = 3 * n
				total = 8 + 60 + (table+1)/2*2 + 60*n
			}
			if e != api.OK || len(l.At) != n || l.Total != total || l.Table != table {
				t.Errorf("Plan(%d, %d members): %d places, Table %d, Total %d, %d", kind, n, len(l.At), l.Table, l.Total, e)
			}
		}
		wantNoPlan(t, kind, often(maxMembers+1, spec("a", 2)), -1, api.ErrRange)
		wantNoPlan(t, kind, often(2*maxMembers, spec("a", 2)), -1, api.ErrRange)
	}
}

// 10.3: a table around MaxTable, of one name, of two, of many.
func TestPlanTable(t *testing.T) {
	long := letters(maxTable)
	for _, kind := range []api.Kind{api.GNU, api.Thin} {
		for _, names := range [][]string{{long[2:]}, {long[:1000], long[1004:]}, often(1<<12, letters(1<<14-2))} {
			var list []api.Spec
			for _, name := range names {
				list = append(list, spec(name, 1))
			}
			l, e := lay.Plan(kind, list, 1)
			members := 62 * len(list)
			if kind == api.Thin {
				members = 60 * len(list)
			}
			if e != api.OK || l.Table != maxTable || l.Total != 8+62+60+maxTable+members {
				t.Errorf("Plan(%d, %s): Table %d, Total %d, %d", kind, few(list), l.Table, l.Total, e)
			}
			list[0].Name = list[0].Name[1:]
			if l, e := lay.Plan(kind, list, 1); e != api.OK || l.Table != maxTable-1 || l.Total != 8+62+60+maxTable+members {
				t.Errorf("Plan(%d, %s): Table %d, Total %d, %d", kind, few(list), l.Table, l.Total, e)
			}
			list[0].Name += "xy"
			wantNoPlan(t, kind, list, 1, api.ErrSize)
		}
	}
	wantPlan(t, api.BSD, specs(spec(long, 1)), -1, []int{8}, 0, 8+60+maxTable+2)
}

// 10.4, R1: many members may share one long name in memory: nothing is made of it that would find no room there.
func TestPlanSharedName(t *testing.T) {
	list := often(maxMembers, spec(letters(1<<17), 0)) // 8 gigabytes of table
	for _, kind := range []api.Kind{api.GNU, api.Thin} {
		if made := memory(func() { wantNoPlan(t, kind, list, -1, api.ErrSize) }); made > 1<<29 {
			t.Errorf("Plan(%d, %s) takes %d bytes of memory", kind, few(list), made)
		}
	}
	list[len(list)-1].Name = "a/b"
	wantNoPlan(t, api.GNU, list, -1, api.ErrName)
}

// 10.4: an archive that fits into no memory.
func TestPlanHuge(t *testing.T) {
	var l api.Layout
	var e api.Errno
	list := often(maxMembers, spec("a", maxSize))
	made := memory(func() { l, e = lay.Plan(api.GNU, list, maxSize) })
	if e != api.OK || l.Total != 8+60+10000000000+maxMembers*(60+10000000000) || made > 1<<29 {
		t.Errorf("Plan: Total %d, %d, %d bytes of memory", l.Total, e, made)
	}
	for i, at := range l.At {
		if at != 8+60+10000000000+i*(60+10000000000) {
			t.Fatalf("member %d at %d", i, at)
		}
	}
}

// R3: the wrongs of a list in every set of them: the first in the chapter's order is told, wherever they stand.
func TestPlanRefusalsInOrder(t *testing.T) {
	wrongs := []struct {
		e  api.Errno
		do func(kind *api.Kind, list *[]api.Spec, index *int, place int)
	}{
		{api.ErrRange, func(k *api.Kind, _ *[]api.Spec, _ *int, _ int) { *k = 3 }},
		{api.ErrRange, func(_ *api.Kind, _ *[]api.Spec, index *int, _ int) { *index = -2 }},
		{api.ErrRange, func(_ *api.Kind, _ *[]api.Spec, index *int, _ int) { *index = maxSize + 1 }},
		{api.ErrRange, func(_ *api.Kind, l *[]api.Spec, _ *int, _ int) {
			*l = append(*l, often(maxMembers+1-len(*l), spec("a", 0))...)
		}},
		{api.ErrName, func(_ *api.Kind, l *[]api.Spec, _ *int, place int) { (*l)[place].Name = "" }},
		{api.ErrSize, func(_ *api.Kind, l *[]api.Spec, _ *int, place int) { (*l)[(place+1)%3].Size = -1 }},
		{api.ErrSize, func(_ *api.Kind, l *[]api.Spec, _ *int, place int) { (*l)[(place+2)%3].Size = maxSize + 1 }},
	}
	for _, kind := range kinds() {
		for set := 1; set < 1<<len(wrongs); set++ {
			for place := range 3 {
				k, list, index := kind, often(3, spec("a", 0)), -1
				first := api.OK
				for i, w := range wrongs {
					if set>>i&1 == 0 {
						continue
					}
					w.do(&k, &list, &index, place)
					if first == api.OK {
						first = w.e
					}
				}
				wantNoPlan(t, k, list, index, first)
			}
		}
	}
}

// R3: a table that is too long, and a name behind it that is none.
func TestPlanTableOrName(t *testing.T) {
	long := letters(maxTable)
	for _, kind := range []api.Kind{api.GNU, api.Thin} {
		wantNoPlan(t, kind, specs(spec(long, 0), spec("a", 0)), -1, api.ErrSize)
		wantNoPlan(t, kind, specs(spec(long, 0), spec("a/", 0)), -1, api.ErrName)
		wantNoPlan(t, kind, specs(spec(long, 0), spec("a/", 0)), -2, api.ErrRange)
	}
}

// R4: what is handed in stays as it is, and what is told is new each time.
func TestPlanMemory(t *testing.T) {
	for _, kind := range kinds() {
		room := often(8, spec("a name of more bytes", 5))
		kept := slices.Clone(room)
		first, _ := lay.Plan(kind, room[2:5], 3)
		second, _ := lay.Plan(kind, room[2:5], 3)
		if !slices.Equal(room, kept) {
			t.Errorf("kind %d: the list is another one behind the call", kind)
		}
		want := slices.Clone(second.At)
		clear(first.At[:cap(first.At)])
		if !slices.Equal(second.At, want) {
			t.Errorf("kind %d: two answers share memory", kind)
		}
		wantPlan(t, kind, room[2:5], 3, want, second.Table, second.Total)
		_, e := lay.Plan(kind, append(room[:3:3], spec("", 1)), 3)
		if e != api.ErrName || !slices.Equal(room, kept) {
			t.Errorf("kind %d: %d, or the list is another one behind a refusal", kind, e)
		}
	}
}
