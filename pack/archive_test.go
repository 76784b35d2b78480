package pack_test

import (
	"slices"
	"testing"

	"shelf/api"
	"shelf/arc"
	"shelf/index"
	"shelf/pack"
)

// mixed are members with symbols and without, of several machines, names among them twice and long.
func mixed() ([]api.Member, [][]string) {
	all := machines()
	list := members(
		member("t", "text!"), member("a.o", all[0].object(offered("f", "g")...)), member("a.o", all[1].object(offered("f")...)+"x"),
		member(letters(20), all[2].object()), member("spoilt", defines("no")[:100]), member("a name", all[3].object(offered("h", "h")...)), member("end", ""))
	return list, [][]string{nil, {"f", "g"}, {"f"}, nil, nil, {"h", "h"}, nil}
}

// 12.4: archives of each kind, bare or not, with symbols and without, for many thresholds.
func TestBuild(t *testing.T) {
	with, names := mixed()
	without := members(with[0], with[3], with[4], with[6])
	for _, kind := range kinds() {
		for _, bare := range []bool{false, true} {
			for _, wide := range []int{1, 100, 300, 900, 2000, wide32} {
				b, e := modelBuild(kind, with, names, 77, wide, bare)
				if e != api.OK {
					wantNoBuild(t, kind, with, 77, wide, bare, e)
				} else {
					wantBuild(t, kind, with, 77, wide, bare, b)
				}
				b, _ = modelBuild(kind, without, make([][]string, 4), 77, wide, bare)
				wantBuild(t, kind, without, 77, wide, bare, b)
				b, _ = modelBuild(kind, nil, nil, 77, wide, bare)
				if got := built(t, kind, nil, 77, wide, bare); got != b {
					t.Errorf("Build(%d, none, %d, %v): %q", kind, wide, bare, got)
				}
			}
		}
	}
}

// 12.4, points 2 and 4: where there is no index neither stamp nor, if bare, threshold and symbols are looked at.
func TestNotLookedAt(t *testing.T) {
	with, _ := mixed()
	without := members(with[0], with[3])
	for _, kind := range kinds() {
		bareWith, bareWithout := built(t, kind, with, 0, 1, true), built(t, kind, without, 0, 1, true)
		for _, stamp := range []int{0, 1, -1, 1 << 62, -1 << 63, 999999999999, 1000000000000} {
			for _, wide := range append(noThresholds(), 1, 100, wide32) {
				if built(t, kind, with, stamp, wide, true) != bareWith || built(t, kind, without, stamp, wide, true) != bareWithout {
					t.Errorf("kind %d, bare: stamp %d, wide %d are looked at", kind, stamp, wide)
				}
			}
			for _, wide := range []int{1, 100, wide32} {
				if built(t, kind, without, stamp, wide, false) != bareWithout {
					t.Errorf("kind %d: stamp %d, wide %d are looked at without an index", kind, stamp, wide)
				}
			}
			for _, wide := range noThresholds() {
				wantNoBuild(t, kind, without, stamp, wide, false, api.ErrRange)
			}
		}
		p, _, e := arc.Parse(bareWith)
		if e != api.OK || p.Form != api.NoIndex || p.Stamp != 0 || len(p.Members) != len(with) {
			t.Errorf("kind %d, bare: %d, form %d, stamp %d, %d members", kind, e, p.Form, p.Stamp, len(p.Members))
		}
	}
}

// 12.4, point 5: the index's date, and dates that its column does not hold.
func TestStamp(t *testing.T) {
	list := members(member("a", defines("f")))
	for _, kind := range kinds() {
		for _, stamp := range []int{0, 1, 999999999998, 999999999999} {
			b, _ := modelBuild(kind, list, [][]string{{"f"}}, stamp, wide32, false)
			wantBuild(t, kind, list, stamp, wide32, false, b)
		}
		for _, stamp := range []int{-1, -1 << 63, 1000000000000, 1<<63 - 1} {
			wantNoBuild(t, kind, list, stamp, wide32, false, api.ErrWide)
		}
	}
}

// 12.4, point 1: a thin archive lets the data go, and its sizes are those that were given; others ask for the data's own.
func TestSizes(t *testing.T) {
	for _, size := range []int{0, 1, 5, len(defines("f")), 1000, maxSize} {
		list := members(member("a.o", defines("f")), member("b", "text"), member("c", ""))
		for i := range list {
			list[i].Size = size
			b, e := modelBuild(api.Thin, list, [][]string{{"f"}, nil, nil}, 5, wide32, false)
			if e != api.OK {
				t.Fatal(e)
			}
			wantBuild(t, api.Thin, list, 5, wide32, false, b)
			built(t, api.Thin, list, 5, wide32, true)
			for _, kind := range []api.Kind{api.GNU, api.BSD} {
				if size != len(list[i].Data) || i > 0 {
					wantNoBuild(t, kind, list, 5, wide32, true, api.ErrSize)
				}
			}
		}
	}
	for _, kind := range kinds() {
		for _, size := range []int{-1, maxSize + 1} {
			list := members(member("a.o", defines("f")))
			list[0].Size = size
			wantNoBuild(t, kind, list, 5, wide32, false, api.ErrSize)
			wantNoBuild(t, kind, list, 5, wide32, true, api.ErrSize)
		}
	}
}

// 12.4: what the members only say of their sizes moves the places, and that is looked at ahead of whether it is true.
func TestPlacesAheadOfTruth(t *testing.T) {
	list := members(member("a", "x"), member("b", defines("f")))
	list[0].Size = maxSize
	wantNoBuild(t, api.BSD, list, 5, wide32, false, api.ErrFar)
	wantNoBuild(t, api.GNU, list, 5, wide32, false, api.ErrSize)
	wantNoBuild(t, api.BSD, list, 5, wide32, true, api.ErrSize)
}

// 12.5: the index of one archive spelt out, in each form.
func TestPairs(t *testing.T) {
	one, two := defines("f", "g"), defines("f")
	list := members(member("a", one), member("no", "text"), member("b", two))
	for _, x := range []struct {
		kind api.Kind
		wide int
		form api.Form
		a, b int
	}{
		{api.GNU, wide32, api.Index32, 90, 90 + 60 + len(one) + len(one)%2 + 64},
		{api.GNU, 1, api.Index64, 106, 106 + 60 + len(one) + len(one)%2 + 64},
		{api.BSD, wide32, api.IndexBSD, 106, 106 + 60 + len(one) + len(one)%2 + 64},
		{api.Thin, wide32, api.Index32, 90 + 70, 90 + 70 + 120},
		{api.Thin, 1, api.Index64, 106 + 70, 106 + 70 + 120},
	} {
		b := built(t, x.kind, list, 9, x.wide, false)
		p, _, e := arc.Parse(b)
		if e != api.OK || p.Form != x.form || p.Stamp != 9 {
			t.Errorf("kind %d, wide %d: %d, form %d, stamp %d", x.kind, x.wide, e, p.Form, p.Stamp)
		}
		want := []api.Entry{{Name: "f", At: x.a}, {Name: "g", At: x.a}, {Name: "f", At: x.b}}
		if got, e := index.Decode(p.Form, p.Index); e != api.OK || !slices.Equal(got, want) {
			t.Errorf("kind %d, wide %d: the index says %v, %d, want %v", x.kind, x.wide, got, e, want)
		}
	}
}

// 12.6 to 12.8: with every threshold up to beyond the archive's end: the form by the places, the lengths Plan's, the same bytes for the same form.
func TestEveryThreshold(t *testing.T) {
	list := members(member("a b", "text!"), member("f.o", defines("f")), member("n", ""), member("g.o", defines("g", "g")), member(letters(18), "x"))
	for _, kind := range kinds() {
		seen := map[api.Form]string{}
		for wide := 1; wide < 1500; wide++ {
			b, e := pack.Build(kind, list, 5, wide, false)
			if e == api.ErrFar && kind == api.BSD {
				continue
			}
			if e != api.OK {
				t.Fatalf("kind %d, wide %d: %d", kind, wide, e)
			}
			wantTruth(t, kind, list, 5, wide, b)
			p, _, _ := arc.Parse(b)
			if was, ok := seen[p.Form]; ok && was != b {
				t.Errorf("kind %d, form %d: wide %d leads to other bytes", kind, p.Form, wide)
			}
			seen[p.Form] = b
		}
		if want := map[api.Kind]int{api.GNU: 2, api.Thin: 2, api.BSD: 1}[kind]; len(seen) != want {
			t.Errorf("kind %d: %d forms, want %d", kind, len(seen), want)
		}
		for _, wide := range []int{1500, 1 << 20, wide32 - 1, wide32} {
			narrow := map[api.Kind]api.Form{api.GNU: api.Index32, api.Thin: api.Index32, api.BSD: api.IndexBSD}[kind]
			if built(t, kind, list, 5, wide, false) != seen[narrow] {
				t.Errorf("kind %d: wide %d leads to other bytes", kind, wide)
			}
		}
	}
}

// As many members as there may be, and one more.
func TestManyMembers(t *testing.T) {
	list := slices.Repeat(members(member("a", "")), maxMembers)
	list[maxMembers-1] = member("b", defines("f"))
	for _, kind := range kinds() {
		for _, bare := range []bool{false, true} {
			b := built(t, kind, list, 5, wide32, bare)
			if !bare {
				wantTruth(t, kind, list, 5, wide32, b)
			}
			wantNoBuild(t, kind, append(slices.Clone(list), list[0]), 5, wide32, bare, api.ErrRange)
			wantNoBuild(t, kind, slices.Repeat(list[:1], maxMembers+1), 5, wide32, bare, api.ErrRange)
		}
	}
}
