package order_test

import (
	"fmt"
	"slices"
	"strings"
	"testing"

	"shelf/api"
	"shelf/arc"
	"shelf/link"
	"shelf/order"
	"shelf/syms"
	"shelf/text"
	"shelf/tool"
	"shelf/vfs"
)

// objects are files each of whose names is defined by one of them at most; what one needs is mostly defined by those of a higher number, so that seldom two need each other.
func (d dice) objects() files {
	list := files{}
	for i := range 12 {
		defines := []string{fmt.Sprint("n", i)}
		if d.Intn(3) == 0 {
			defines = append(defines, fmt.Sprint("also", i), fmt.Sprint("n", i))
		}
		needs := some(d, 4, func() string {
			k := i + d.Intn(12-i)
			if d.Intn(60) == 0 {
				k = d.Intn(12)
			}
			return fmt.Sprint(one(d, "n", "n", "also", "nobody"), k)
		})
		if d.Intn(8) == 0 {
			defines = nil
		}
		list[fmt.Sprint(i, ".o")] = object(defines, needs)
	}
	return list
}

// ordered are the files' names in Run's order, whatever order they were given in; and was no loop told?
func (d dice) ordered(t *testing.T, list files) ([]string, bool) {
	t.Helper()
	given := make([]string, len(list))
	for i, k := range d.Perm(len(list)) {
		given[i] = fmt.Sprint(k, ".o")
	}
	r := order.Run(durable(t, list), given)
	names, _, e := text.Words(r.Out)
	if e != api.OK || len(names) != len(list) {
		t.Fatal(r)
	}
	return names, r.Code == api.OK
}

// opened is an archive of these files, put in in this order, as a linker sees it.
func opened(t *testing.T, f *vfs.FS, key string, names []string) api.Library {
	t.Helper()
	f.Arm(nil)
	if r := tool.Run(f, append([]string{"ar", key, "lib.a"}, names...), api.Env{}); r.Code != api.OK {
		t.Fatal(r)
	}
	data, err := f.ReadFile("lib.a")
	must(t, err)
	p, _, e := arc.Parse(data)
	if e != api.OK {
		t.Fatal(e)
	}
	lib, e := link.Open(p)
	if e != api.OK || !slices.Equal(lib.Names, names) {
		t.Fatal(e, lib.Names)
	}
	return lib
}

// reached are the files that define a wanted name, those that define what these need, and so on, in a list's order.
func reached(list files, names, wanted []string) []string {
	wanted = slices.Clone(wanted)
	var in []string
	for again := true; again; {
		again = false
		for _, name := range names {
			if slices.Contains(in, name) || !slices.ContainsFunc(syms.Globals(list[name]), func(x string) bool { return slices.Contains(wanted, x) }) {
				continue
			}
			in = append(in, name)
			wanted = append(wanted, syms.Needs(list[name])...)
			again = true
		}
	}
	slices.SortFunc(in, func(a, b string) int { return slices.Index(names, a) - slices.Index(names, b) })
	return in
}

// placesOf are the places of a link's members.
func placesOf(st api.Link) []int {
	var at []int
	for _, p := range st.Pulled {
		at = append(at, p.At)
	}
	return at
}

// 21.10, W14: where no loop is told, the places that a search of an archive in this order pulls in rise, and it pulls in all that is reached: so its first pass did.
func TestOnePassIsEnough(t *testing.T) {
	passes, turned := 0, 0
	for seed := range 1500 {
		d := newDice(seed)
		list := d.objects()
		names, straight := d.ordered(t, list)
		if !straight {
			continue
		}
		wanted := append(some(d, 4, func() string { return fmt.Sprint(one(d, "n", "also"), d.Intn(12)) }), "n0", "nowhere")
		want := reached(list, names, wanted)
		for _, key := range []string{"qc", "rc"} {
			lib := opened(t, durable(t, list), key, names)
			at := placesOf(link.Search(lib, 0, api.Link{Wanted: wanted}))
			what := fmt.Sprintf("21.10: seed %d: of %q wanted %q", seed, names, wanted)
			if !slices.IsSorted(at) || len(slices.Compact(slices.Clone(at))) != len(at) {
				t.Fatalf("%s: the places are %d", what, at)
			}
			var got []string
			for _, place := range at {
				got = append(got, lib.Names[slices.Index(lib.At, place)])
			}
			if !slices.Equal(got, want) {
				t.Fatalf("%s: pulled in are %q, want %q", what, got, want)
			}
		}
		passes += min(len(want), 3) / 3
		slices.Reverse(names)
		back := placesOf(link.Search(opened(t, durable(t, list), "qc", names), 0, api.Link{Wanted: wanted}))
		if !slices.IsSorted(back) {
			turned++
		}
	}
	if passes < 200 || turned < 200 {
		t.Errorf("21.10: %d times three or more were pulled in; %d times the order the other way round did not do", passes, turned)
	}
}

// 21.10: a chain of files that is given the wrong way round is put right.
func TestChainIsPutRight(t *testing.T) {
	list := files{}
	var given, want []string
	for i := range 30 {
		name := fmt.Sprintf("%02d.o", i)
		list[name] = object([]string{fmt.Sprint("n", i)}, []string{fmt.Sprint("n", i+1)})
		given = append([]string{name}, given...)
		want = append(want, name)
	}
	r := order.Run(durable(t, list), given)
	wantResult(t, "21.10: a chain", r, told(strings.Join(want, " ")))
	names, _, _ := text.Words(r.Out)
	lib := opened(t, durable(t, list), "qc", names)
	if at := placesOf(link.Search(lib, 0, api.Link{Wanted: []string{"n0"}})); !slices.Equal(at, lib.At) {
		t.Errorf("21.10: a chain: pulled in are %d, want %d", at, lib.At)
	}
}
