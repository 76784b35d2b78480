package order_test

import (
	"fmt"
	"math/rand"
	"strings"
	"testing"

	"shelf/api"
	"shelf/order"
	"shelf/vfs"
)

// dice are what chance decides, the same for the same seed.
type dice struct{ *rand.Rand }

func newDice(seed int) dice { return dice{rand.New(rand.NewSource(int64(seed)))} }

// one is one of these.
func one[T any](d dice, list ...T) T { return list[d.Intn(len(list))] }

// some is a list of fewer than n of what next gives.
func some[T any](d dice, n int, next func() T) []T {
	var list []T
	for range d.Intn(n) {
		list = append(list, next())
	}
	return list
}

// nameOf is a drawer of names, of so few that they meet.
func (d dice) nameOf(few int) func() string {
	all := []string{"a", "b", "", "c", "a b", "d", "\xff", "e", "f", "g", "h", "i"}
	return func() string { return all[d.Intn(min(few, len(all)))] }
}

// nodes are any list, with few or many names of files and of symbols.
func (d dice) nodes() []api.Node {
	file, name := d.nameOf(1+d.Intn(12)), d.nameOf(1+d.Intn(12))
	return some(d, 9, func() api.Node {
		return api.Node{Name: file(), Defines: some(d, 5, name), Needs: some(d, 5, name)}
	})
}

// edges are any list, of few or many nodes, from some edges to many.
func (d dice) edges() []api.Edge {
	name := d.nameOf(1 + d.Intn(12))
	return some(d, one(d, 5, 12, 30, 60), func() api.Edge { return api.Edge{From: name(), To: name()} })
}

// 21.1: any nodes, against the chapter's own words.
func TestEdgesAgainstModel(t *testing.T) {
	for seed := range 40000 {
		list := newDice(seed).nodes()
		wantEdges(t, fmt.Sprintf("21.1: seed %d", seed), list, toldEdges(list))
		if t.Failed() {
			return
		}
	}
}

// 21.2 to 21.5: any edges, against the chapter's own words.
func TestSortAgainstModel(t *testing.T) {
	met := map[int]int{}
	for seed := range 40000 {
		edges := newDice(seed).edges()
		names, circles := toldSort(edges)
		wantSort(t, fmt.Sprintf("21.3: seed %d", seed), edges, names, circles)
		met[len(circles)]++
		if t.Failed() {
			return
		}
	}
	for n := range 8 {
		if met[n] < 100 {
			t.Errorf("chance met %d loops only %d times", n, met[n])
		}
	}
}

// 21.2 to 21.5: every list of up to four edges between three nodes.
func TestSortOfAllShortLists(t *testing.T) {
	var all []api.Edge
	for _, from := range words("a b c") {
		for _, to := range words("a b c") {
			all = append(all, api.Edge{From: from, To: to})
		}
	}
	var try func(edges []api.Edge, more int)
	try = func(edges []api.Edge, more int) {
		names, circles := toldSort(edges)
		wantSort(t, "21.3", edges, names, circles)
		if more == 0 || t.Failed() {
			return
		}
		for _, e := range all {
			try(append(edges[:len(edges):len(edges)], e), more-1)
		}
	}
	try(nil, 4)
}

// data are a file's: mostly an object file, now and then another one or a spoilt one.
func (d dice) data(few int) string {
	switch d.Intn(10) {
	case 0:
		return one(d, "", "text", api.MagicRegular)
	case 1:
		whole := obj("a b", "c")
		return whole[:d.Intn(len(whole))]
	}
	return objectOf(some(d, 6, func() symbol {
		return symbol{d.nameOf(few)(), one(d, 1, 1, 1, 2, 0), one(d, 0, 0, 1, 0xfff2)}
	})...)
}

// volumes are two volumes that are the same.
func (d dice) volumes(t *testing.T) (*vfs.FS, *vfs.FS) {
	list := files{}
	few := 4 + d.Intn(9)
	for _, name := range []string{"1.o", "2.o", "3.o", "4.o", "5.o", "6 .o", "ar.tmp~"} {
		if d.Intn(30) > 0 {
			list[name] = d.data(few)
		}
	}
	f, twin := durable(t, list), durable(t, list)
	if d.Intn(6) == 0 {
		plan := []api.Fault{{At: d.Intn(8), Kind: 1 + d.Intn(3), N: 2}}
		f.Arm(plan)
		twin.Arm(plan)
	}
	return f, twin
}

// 21.6, 21.7: volumes of files of all sorts, against the chapter's own words.
func TestRunAgainstModel(t *testing.T) {
	codes := map[api.Errno]int{}
	for seed := range 20000 {
		d := newDice(seed)
		f, twin := d.volumes(t)
		names := some(d, 9, func() string {
			if d.Intn(60) == 0 {
				return one(d, "ar.tmp~", "gone", "", "a/b", strings.Repeat("n", 65))
			}
			return one(d, "1.o", "2.o", "3.o", "4.o", "5.o", "6 .o")
		})
		what := fmt.Sprintf("21.6: seed %d: Run(%q)", seed, names)
		got, want := order.Run(f, names), toldRun(twin, names)
		wantResult(t, what, got, want)
		wantCalls(t, what, f, twin.Calls())
		codes[got.Code]++
		if t.Failed() {
			return
		}
	}
	for _, code := range []api.Errno{api.OK, api.ErrLoop, api.ErrMissing, api.ErrFileName, api.ErrReserved, api.ErrIO, api.ErrDown} {
		if codes[code] < 20 {
			t.Errorf("chance met %d (%v) only %d times", code, code, codes[code])
		}
	}
}
