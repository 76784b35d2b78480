package lay_test

import (
	"math"
	"testing"

	"shelf/api"
)

// 10.5, point 1: kinds that are none, whatever else is wrong.
func TestWriteKinds(t *testing.T) {
	for _, kind := range noKinds() {
		wantNoWrite(t, api.Archive{Kind: kind}, api.ErrRange)
		wantNoWrite(t, api.Archive{Kind: kind, Form: 9, Stamp: -1, Members: []api.Member{{Size: -1}}}, api.ErrRange)
		wantNoWrite(t, api.Archive{Kind: kind, Members: []api.Member{mem("a", "x")}}, api.ErrRange)
	}
}

// 10.5, point 2: every form in every kind.
func TestWriteForms(t *testing.T) {
	takes := map[api.Kind]map[api.Form]int{api.GNU: {0: 1, 1: 1, 2: 1}, api.Thin: {0: 1, 1: 1, 2: 1}, api.BSD: {0: 1, 3: 1}}
	for _, kind := range kinds() {
		for _, form := range []api.Form{-2, -1, 0, 1, 2, 3, 4, 5, 256, 257, 1 << 32, 1<<32 + 1, math.MinInt, math.MaxInt} {
			a := api.Archive{Kind: kind, Form: form, Members: []api.Member{some(kind, "a", "xy")}}
			if takes[kind][form] == 0 {
				wantNoWrite(t, a, api.ErrForm)
				continue
			}
			wantTaken(t, a)
			if form != api.NoIndex {
				a.Index, a.Stamp = "x", 1
				wantTaken(t, a)
			}
		}
		wantNoWrite(t, api.Archive{Kind: kind, Index: "x"}, api.ErrForm)
		wantNoWrite(t, api.Archive{Kind: kind, Index: "\x00"}, api.ErrForm)
		for _, stamp := range []int{1, -1, math.MinInt, math.MaxInt, 1 << 32} {
			wantNoWrite(t, api.Archive{Kind: kind, Stamp: stamp}, api.ErrForm)
			wantNoWrite(t, api.Archive{Kind: kind, Stamp: stamp, Index: "x"}, api.ErrForm)
		}
	}
}

// wantTaken wants that Write takes a, and what 10.6 to 10.8 say.
func wantTaken(t *testing.T, a api.Archive) {
	t.Helper()
	b, e := modelWrite(a)
	if e != api.OK {
		t.Fatalf("the model refuses %s: %d", short(a), e)
	}
	wantWrite(t, a, b)
}

// three is an archive of three members with nothing wrong.
func three(kind api.Kind, form api.Form) api.Archive {
	return api.Archive{Kind: kind, Form: form, Members: []api.Member{some(kind, "a", "x"), some(kind, letters(20), "xy"), some(kind, "a b", "")}}
}

// 10.5, point 4: names that are none, in every member.
func TestWriteNames(t *testing.T) {
	for _, kind := range kinds() {
		for place := range 3 {
			for _, name := range []string{"", "/", "a/", "/a", "a/b", "\x00", "a\x00", letters(20) + "/", "\x00" + letters(20)} {
				a := three(kind, api.NoIndex)
				a.Members[place].Name = name
				wantNoWrite(t, a, api.ErrName)
			}
		}
	}
}

// 10.5, point 5: sizes that are not the data's, data in thin members, sizes beyond the bounds; in every member.
func TestWriteSizes(t *testing.T) {
	for _, kind := range kinds() {
		for place := range 3 {
			a := three(kind, api.NoIndex)
			m := &a.Members[place]
			right := *m
			for _, size := range []int{-1, math.MinInt, math.MaxInt, maxSize + 1, -2} {
				m.Size = size
				wantNoWrite(t, a, api.ErrSize)
			}
			*m = right
			if kind == api.Thin {
				for _, data := range []string{"x", "\x00", letters(m.Size)} {
					m.Data = data
					if data != "" {
						wantNoWrite(t, a, api.ErrSize)
					}
				}
				continue
			}
			for _, size := range []int{0, 1, 2, 3, len(m.Data) + len(m.Name), maxSize} {
				m.Size = size
				if size != len(m.Data) {
					wantNoWrite(t, a, api.ErrSize)
				}
			}
		}
	}
}

// 10.5, point 6: numbers around the bounds of their columns, in every member.
func TestWriteWide(t *testing.T) {
	for _, kind := range kinds() {
		for place := range 3 {
			for _, number := range []struct {
				of   func(m *api.Meta) *int
				most int
			}{
				{func(m *api.Meta) *int { return &m.Date }, 999999999999},
				{func(m *api.Meta) *int { return &m.UID }, 999999},
				{func(m *api.Meta) *int { return &m.GID }, 999999},
				{func(m *api.Meta) *int { return &m.Mode }, 16777215},
			} {
				a := three(kind, api.NoIndex)
				n := number.of(&a.Members[place].Meta)
				for _, *n = range []int{0, 1, number.most - 1, number.most} {
					wantTaken(t, a)
				}
				for _, *n = range []int{-1, -2, math.MinInt, number.most + 1, number.most + 2, math.MaxInt} {
					wantNoWrite(t, a, api.ErrWide)
				}
			}
		}
	}
}

// 10.5, point 6: the index's date.
func TestWriteStamp(t *testing.T) {
	for _, kind := range kinds() {
		for _, form := range forms(kind)[1:] {
			for _, a := range []api.Archive{three(kind, form), {Kind: kind, Form: form}} {
				for _, a.Stamp = range []int{0, 1, 999999999998, 999999999999} {
					wantTaken(t, a)
				}
				for _, a.Stamp = range []int{-1, math.MinInt, 1000000000000, math.MaxInt} {
					wantNoWrite(t, a, api.ErrWide)
				}
			}
		}
	}
}

// wrong is something that Write refuses, and how it is brought about in one of three members or beside them.
type wrong struct {
	point int // of 10.5
	e     api.Errno
	do    func(a *api.Archive, m *api.Member)
}

// wrongs are those of each point, in the chapter's order. What stands in the list of a kind alone is asked for there.
func wrongs(kind api.Kind, form api.Form) []wrong {
	list := []wrong{
		{1, api.ErrRange, func(a *api.Archive, _ *api.Member) { a.Kind = 3 }},
		{2, api.ErrForm, func(a *api.Archive, _ *api.Member) { a.Form = 4 }},
		{4, api.ErrName, func(_ *api.Archive, m *api.Member) { m.Name = "" }},
		{4, api.ErrName, func(_ *api.Archive, m *api.Member) { m.Name += "/" }},
		{5, api.ErrSize, func(_ *api.Archive, m *api.Member) { m.Size = -1 }},
		{6, api.ErrWide, func(_ *api.Archive, m *api.Member) { m.Date = -1 }},
		{6, api.ErrWide, func(_ *api.Archive, m *api.Member) { m.UID = 1000000 }},
		{6, api.ErrWide, func(_ *api.Archive, m *api.Member) { m.GID = -1 }},
		{6, api.ErrWide, func(_ *api.Archive, m *api.Member) { m.Mode = 16777216 }},
	}
	if form == api.NoIndex {
		list = append(list,
			wrong{2, api.ErrForm, func(a *api.Archive, _ *api.Member) { a.Index = "x" }},
			wrong{2, api.ErrForm, func(a *api.Archive, _ *api.Member) { a.Stamp = -1 }})
	} else {
		list = append(list, wrong{6, api.ErrWide, func(a *api.Archive, _ *api.Member) { a.Stamp = -1 }})
	}
	if kind == api.Thin {
		list = append(list, wrong{5, api.ErrSize, func(_ *api.Archive, m *api.Member) { m.Data, m.Size = "x", 1 }})
	} else {
		list = append(list, wrong{5, api.ErrSize, func(_ *api.Archive, m *api.Member) { m.Size = len(m.Data) + 1 }})
	}
	return list
}

// 10.5: two wrongs at a time, each in every member: the one of the earlier point is told.
func TestWritePairsOfWrongs(t *testing.T) {
	for _, kind := range kinds() {
		for _, form := range forms(kind) {
			list := wrongs(kind, form)
			for _, w := range list {
				for _, v := range list {
					for places := range 9 {
						a := three(kind, form)
						w.do(&a, &a.Members[places/3])
						v.do(&a, &a.Members[places%3])
						first := w
						if v.point < w.point {
							first = v
						}
						wantNoWrite(t, a, first.e)
					}
				}
			}
		}
	}
}

// 10.5: a wrong of each point in every set of them, with too many members among them.
func TestWriteSetsOfWrongs(t *testing.T) {
	for _, kind := range kinds() {
		points := []wrong{
			{1, api.ErrRange, func(a *api.Archive, _ *api.Member) { a.Kind = -1 }},
			{2, api.ErrForm, func(a *api.Archive, _ *api.Member) { a.Form = -1 }},
			{3, api.ErrRange, func(a *api.Archive, _ *api.Member) {
				a.Members = append(a.Members, often(maxMembers-2, some(kind, "a", "xy"))...)
			}},
			{4, api.ErrName, func(_ *api.Archive, m *api.Member) { m.Name = "/" }},
			{5, api.ErrSize, func(_ *api.Archive, m *api.Member) { m.Size = maxSize + 1 }},
			{6, api.ErrWide, func(_ *api.Archive, m *api.Member) { m.Mode = -1 }},
		}
		for set := 1; set < 1<<len(points); set++ {
			for place := range 3 {
				a := three(kind, api.NoIndex)
				first := api.OK
				for i, w := range points {
					if set>>i&1 == 0 {
						continue
					}
					w.do(&a, &a.Members[(place+2*i)%3])
					if first == api.OK {
						first = w.e
					}
				}
				wantNoWrite(t, a, first)
			}
		}
	}
}
