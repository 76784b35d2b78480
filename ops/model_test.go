package ops_test

import (
	"slices"
	"strconv"
	"testing"

	"shelf/api"
	"shelf/ops"
)

// modelSelect: the k-th name of its kind means the k-th member of its kind.
func modelSelect(list []api.Member, asked []string) ([]int, []string) {
	var numbers []int
	var missing []string
	for i, name := range asked {
		ahead := 0
		for _, other := range asked[:i] {
			if other == name {
				ahead++
			}
		}
		var all []int
		for number, m := range list {
			if m.Name == name {
				all = append(all, number)
			}
		}
		if ahead < len(all) {
			numbers = append(numbers, all[ahead])
		} else {
			missing = append(missing, name)
		}
	}
	return numbers, missing
}

func modelDelete(list []api.Member, asked []string) ([]api.Member, string, api.Errno) {
	numbers, missing := modelSelect(list, asked)
	if missing != nil {
		return nil, missing[0], api.ErrNoMember
	}
	var rest []api.Member
	for number, m := range list {
		if !slices.Contains(numbers, number) {
			rest = append(rest, m)
		}
	}
	return rest, "", api.OK
}

// modelMove goes through the others and tells the block when it comes to its place.
func modelMove(list []api.Member, asked []string, pos api.Pos) ([]api.Member, string, api.Errno) {
	others, name, e := modelDelete(list, asked)
	if e != api.OK {
		return nil, name, e
	}
	var moved, out []api.Member
	numbers, _ := modelSelect(list, asked)
	for _, number := range numbers {
		moved = append(moved, list[number])
	}
	met := false
	for _, m := range others {
		here := !met && m.Name == pos.Anchor
		if here && pos.Where == api.Before {
			out = append(out, moved...)
		}
		out = append(out, m)
		if here && pos.Where == api.After {
			out = append(out, moved...)
		}
		met = met || here
	}
	if pos.Where != api.After && pos.Where != api.Before {
		return append(out, moved...), "", api.OK
	}
	if !met {
		return nil, pos.Anchor, api.ErrAnchor
	}
	return out, "", api.OK
}

// slot is a place of the list that Insert is about: of its member it is known whether it is the anchor, and whether it joined.
type slot struct {
	api.Member
	anchor, joined bool
}

// modelInsert keeps the list as it is by now, each new one where it stands.
func modelInsert(list, in []api.Member, pos api.Pos, update bool) ([]api.Member, []api.Event, api.Errno) {
	var slots []slot
	anchored := pos.Where == api.After || pos.Where == api.Before
	found := false
	for _, m := range list {
		here := anchored && !found && m.Name == pos.Anchor
		slots = append(slots, slot{m, here, false})
		found = found || here
	}
	if anchored && !found {
		return nil, nil, api.ErrAnchor
	}
	var events []api.Event
	for _, x := range in {
		met := slices.IndexFunc(slots, func(s slot) bool { return s.Name == x.Name })
		what := byte('r')
		if met < 0 {
			what = 'a'
			slots = slices.Insert(slots, modelPlace(slots, pos.Where), slot{x, false, true})
		} else if update && !(x.Date > slots[met].Date) {
			what = 'u'
		} else {
			slots[met].Member = x
		}
		events = append(events, api.Event{What: what, Name: x.Name})
	}
	var out []api.Member
	for _, s := range slots {
		out = append(out, s.Member)
	}
	return out, events, api.OK
}

// modelPlace is where the next new one joins: behind the anchor and all new ones there, or right ahead of it, or at the end.
func modelPlace(slots []slot, where int) int {
	anchor := slices.IndexFunc(slots, func(s slot) bool { return s.anchor })
	switch where {
	case api.After:
		for anchor++; anchor < len(slots) && slots[anchor].joined; anchor++ {
		}
		return anchor
	case api.Before:
		return anchor
	}
	return len(slots)
}

// lists are all lists of up to so many of these words.
func lists(length int, words ...string) []string {
	all, last := []string{""}, []string{""}
	for range length {
		var longer []string
		for _, ahead := range last {
			for _, word := range words {
				longer = append(longer, ahead+" "+word)
			}
		}
		all = append(all, longer...)
		last = longer
	}
	return all
}

// marked gives members of one name data of their own, so that it shows which is which.
func marked(words, mark string) []api.Member {
	members := list(words)
	for i, m := range members {
		data := mark + strconv.Itoa(i)
		name := m.Name
		members[i] = member(name, m.Date, data)
	}
	return members
}

func positions() []api.Pos {
	var all []api.Pos
	for _, where := range []int{api.AtEnd, api.After, api.Before, 3, -1} {
		for _, anchor := range []string{"", "a", "b", "x"} {
			all = append(all, api.Pos{Where: where, Anchor: anchor})
		}
	}
	return all
}

// 13.1 to 13.3: every short list with every few names.
func TestAllSelectDeleteMove(t *testing.T) {
	for _, words := range lists(4, "-", "a", "b") {
		members := marked(words, "m")
		for _, asking := range lists(3, "-", "a", "b", "x") {
			asked := names(asking)
			n, m := ops.Select(members, asked)
			if wantN, wantM := modelSelect(members, asked); !slices.Equal(n, wantN) || !slices.Equal(m, wantM) || len(n)+len(m) != len(asked) {
				t.Errorf("Select(%s, %q): %v, %q, want %v, %q", told(members), asked, n, m, wantN, wantM)
			}
			l, name, e := ops.Delete(members, asked)
			if wantL, wantName, wantE := modelDelete(members, asked); !slices.Equal(l, wantL) || name != wantName || e != wantE {
				t.Errorf("Delete(%s, %q): %s, %q, %d, want %s, %q, %d", told(members), asked, told(l), name, e, told(wantL), wantName, wantE)
			}
			for _, pos := range positions() {
				l, name, e := ops.Move(members, asked, pos)
				if wantL, wantName, wantE := modelMove(members, asked, pos); !slices.Equal(l, wantL) || name != wantName || e != wantE {
					t.Errorf("Move(%s, %q, %v): %s, %q, %d, want %s, %q, %d", told(members), asked, pos, told(l), name, e, told(wantL), wantName, wantE)
				}
			}
		}
	}
}

// 13.4 to 13.6: every short list with every few members, of several dates.
func TestAllInsertAppend(t *testing.T) {
	ins := lists(3, "-.2", "a.1", "a.3", "x.1", "x.2")
	for _, words := range lists(3, "-.2", "a.1", "a.2", "b.2") {
		olds := marked(words, "old")
		for _, more := range ins {
			in := marked(more, "new")
			for _, pos := range positions() {
				wantAsModel(t, olds, in, pos, false)
				wantAsModel(t, olds, in, pos, true)
			}
			if l := ops.Append(olds, in); !slices.Equal(l, slices.Concat(olds, in)) {
				t.Errorf("Append(%s, %s): %s", told(olds), told(in), told(l))
			}
		}
	}
}

func wantAsModel(t *testing.T, olds, in []api.Member, pos api.Pos, update bool) {
	t.Helper()
	l, v, e := ops.Insert(olds, in, pos, update)
	wantL, wantV, wantE := modelInsert(olds, in, pos, update)
	if !slices.Equal(l, wantL) || !slices.Equal(v, wantV) || e != wantE {
		t.Errorf("Insert(%s, %s, %v, %v): %s, %s, %d, want %s, %s, %d", told(olds), told(in), pos, update, told(l), done(v), e, told(wantL), done(wantV), wantE)
	}
	if e == api.OK {
		wantConsequences(t, olds, in, l, update)
	}
}

// 13.5: without update each name's last member of in stands in the answer; each name stands there as often as in list, or once.
func wantConsequences(t *testing.T, olds, in, out []api.Member, update bool) {
	t.Helper()
	last, count, want := map[string]api.Member{}, map[string]int{}, map[string]int{}
	for _, m := range olds {
		want[m.Name]++
	}
	for _, m := range in {
		last[m.Name] = m
		want[m.Name] = max(want[m.Name], 1)
	}
	for _, m := range out {
		count[m.Name]++
	}
	for _, m := range last {
		if !update && !slices.Contains(out, m) {
			t.Errorf("Insert(%s, %s): %v is not in %s", told(olds), told(in), m, told(out))
		}
	}
	for name, n := range want {
		if count[name] != n {
			t.Errorf("Insert(%s, %s): %q stands %d times in %s, want %d", told(olds), told(in), name, count[name], told(out), n)
		}
	}
	if len(count) != len(want) {
		t.Errorf("Insert(%s, %s): other names in %s", told(olds), told(in), told(out))
	}
}
