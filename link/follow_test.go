package link_test

import (
	"fmt"
	"slices"
	"testing"

	"shelf/api"
	"shelf/link"
)

// wantNoMore: 18.8: does no entry of the library pull?
func wantNoMore(t *testing.T, what string, lib api.Library, number int, st api.Link) {
	t.Helper()
	for _, x := range lib.Entries {
		if pulls(lib, number, st, x) >= 0 {
			t.Errorf("18.8: %s: %v pulls still", what, x)
		}
	}
}

// wantAsked: 18.9: was each of the places that are new wanted, new and pulled in one time?
func wantAsked(t *testing.T, what string, libs map[int]api.Library, st, got api.Link) {
	t.Helper()
	asked := slices.Clone(st.Wanted)
	for i := len(st.Pulled); i < len(got.Pulled); i++ {
		place := got.Pulled[i]
		if slices.Contains(got.Pulled[:i], place) {
			t.Errorf("18.9: %s: %v is pulled in twice", what, place)
		}
		lib := libs[place.Lib]
		if !slices.ContainsFunc(lib.Entries, func(x api.Entry) bool { return x.At == place.At && slices.Contains(asked, x.Name) }) {
			t.Errorf("18.9: %s: %v is pulled in for nothing", what, place)
		}
		if member := slices.Index(lib.At, place.At); member >= 0 && member < len(lib.Needs) {
			asked = append(asked, lib.Needs[member]...)
		}
	}
}

// wantKept: 18.4: what was there stands ahead, in its order, and only names that are defined have left Wanted.
func wantKept(t *testing.T, what string, st, got api.Link) {
	t.Helper()
	if !slices.Equal(got.Defined[:len(st.Defined)], st.Defined) || !slices.Equal(got.Pulled[:len(st.Pulled)], st.Pulled) {
		t.Errorf("18.4: %s: what was there is not kept: %s", what, told(got))
	}
	stayed := slices.DeleteFunc(slices.Clone(st.Wanted), func(name string) bool { return !slices.Contains(got.Wanted, name) })
	if !slices.Equal(got.Wanted[:len(stayed)], stayed) {
		t.Errorf("18.4: %s: the order of Wanted is not kept: %s", what, told(got))
	}
	for _, name := range st.Wanted {
		if !slices.Contains(got.Wanted, name) && !slices.Contains(got.Defined, name) {
			t.Errorf("18.4: %s: %q has left", what, name)
		}
	}
}

// 18.8 to 18.10 of a Search: any library, any link.
func TestBehindSearch(t *testing.T) {
	for seed := range 20000 {
		d := newDice(seed)
		lib, number, st := d.library(), d.number(), d.link()
		what := fmt.Sprintf("seed %d: Search(%+v, %d, %s)", seed, lib, number, told(st))
		got := link.Search(lib, number, st)
		wantNoMore(t, what, lib, number, got)
		wantAsked(t, what, map[int]api.Library{number: lib}, st, got)
		wantKept(t, what, st, got)
		wantLink(t, "18.10: again: "+what, link.Search(lib, number, got), got)
		st.Wanted = nil
		wantLink(t, "18.10: nothing wanted: "+what, link.Search(lib, number, st), st)
		if t.Failed() {
			return
		}
	}
}

// 18.8 to 18.10 of a Group: any libraries, any link.
func TestBehindGroup(t *testing.T) {
	for seed := range 20000 {
		d := newDice(seed)
		libs, st := some(d, 5, d.library), d.link()
		what := fmt.Sprintf("seed %d: Group(%+v, %s)", seed, libs, told(st))
		got := link.Group(libs, st)
		numbered := map[int]api.Library{}
		for i, lib := range libs {
			numbered[i] = lib
			wantNoMore(t, what, lib, i, got)
		}
		wantAsked(t, what, numbered, st, got)
		wantKept(t, what, st, got)
		wantLink(t, "18.10: again: "+what, link.Group(libs, got), got)
		st.Wanted = nil
		wantLink(t, "18.10: nothing wanted: "+what, link.Group(libs, st), st)
		if t.Failed() {
			return
		}
	}
}

// definers are libraries in which each name has one definer, places are unlike, and the entries are the members' pairs.
func (d dice) definers() []api.Library {
	libs := make([]api.Library, 1+d.Intn(4))
	name := 0
	for range d.Intn(12) {
		lib := &libs[d.Intn(len(libs))]
		at := 8 + 62*len(lib.At)
		var defines []string
		for range d.Intn(4) {
			defines = append(defines, fmt.Sprint("n", name))
			lib.Entries = append(lib.Entries, api.Entry{Name: fmt.Sprint("n", name), At: at})
			name++
		}
		lib.At = append(lib.At, at)
		lib.Defines = append(lib.Defines, defines)
		lib.Needs = append(lib.Needs, some(d, 4, func() string { return fmt.Sprint("n", d.Intn(20)) }))
	}
	return libs
}

// reached is what 18.11 says of them: the members that are reached, told as libraries' numbers and places; what they define; what stays wanted. All sorted.
func reached(libs []api.Library, wanted []string) ([]string, []string, []string) {
	var members, defined, wants []string
	asked := slices.Clone(wanted)
	for len(asked) > 0 {
		name := asked[0]
		asked = asked[1:]
		found := false
		for i, lib := range libs {
			for k := range lib.At {
				if !slices.Contains(lib.Defines[k], name) {
					continue
				}
				found = true
				mark := fmt.Sprint(i, ":", lib.At[k])
				if !slices.Contains(members, mark) {
					members = append(members, mark)
					defined = append(defined, lib.Defines[k]...)
					asked = append(asked, lib.Needs[k]...)
				}
			}
		}
		if !found {
			wants = append(wants, name)
		}
	}
	slices.Sort(wants)
	return sorted(members), sorted(defined), slices.Compact(wants)
}

func sorted(list []string) []string {
	out := slices.Clone(list)
	slices.Sort(out)
	return out
}

// shuffled are the libraries in another order, their entries too; and which library each was.
func (d dice) shuffled(libs []api.Library) ([]api.Library, []int) {
	order := d.Perm(len(libs))
	var out []api.Library
	for _, number := range order {
		lib := copyLibrary(libs[number])
		d.Shuffle(len(lib.Entries), func(i, k int) { lib.Entries[i], lib.Entries[k] = lib.Entries[k], lib.Entries[i] })
		out = append(out, lib)
	}
	return out, order
}

// 18.11: where each name has one definer, just the members that are reached are pulled in, in whatever order libraries and entries stand.
func TestOrderDoesNotMatter(t *testing.T) {
	most := 0
	for seed := range 10000 {
		d := newDice(seed)
		libs := d.definers()
		wanted := some(d, 4, func() string { return fmt.Sprint("n", d.Intn(20)) })
		members, defined, wants := reached(libs, wanted)
		most = max(most, len(members))
		for range 4 {
			turned, order := d.shuffled(libs)
			got := link.Group(turned, api.Link{Wanted: wanted})
			var pulled []string
			for _, place := range got.Pulled {
				pulled = append(pulled, fmt.Sprint(order[place.Lib], ":", place.At))
			}
			if !slices.Equal(sorted(pulled), members) || !slices.Equal(sorted(got.Defined), defined) || !slices.Equal(slices.Compact(sorted(got.Wanted)), wants) {
				t.Fatalf("18.11: seed %d: %+v, wanted %q:\n got %q, %s\nwant %q; %q; %q", seed, turned, wanted, pulled, told(got), members, defined, wants)
			}
		}
	}
	if most < 8 {
		t.Errorf("chance reached no more than %d members", most)
	}
}

// 18.11: as soon as a name has two definers the order does matter.
func TestFirstEntryWins(t *testing.T) {
	f, g := single("f", "a"), single("f", "b")
	wantGroup(t, []api.Library{f, g}, "; f; ", "f; a; 0:8")
	wantGroup(t, []api.Library{g, f}, "; f; ", "f; b; 0:8")
}
