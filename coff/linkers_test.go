package coff_test

import (
	"strings"
	"testing"

	"shelf/api"
)

// linked is an archive whose linker members have these data.
func linked(old, new string, parts ...string) string {
	return magic + whole("/", old) + whole("/", new) + strings.Join(parts, "")
}

// 23.8: what layer 11 does not read is refused at 8, whatever the second linker member says.
func TestReadFirstLinker(t *testing.T) {
	for _, old := range []string{"", "\x00\x00\x00", high4(1), high4(1) + high4(8), high4(1) + high4(8) + "f", high4(1) + high4(8) + "\x00", high4(0) + "x",
		high4(0) + "\x00\n", high4(1<<32 - 1), high4(1<<30) + high4(8), low4(1) + high4(8) + "f\x00", high4(2) + high4(8) + high4(8) + "f\x00\x00\x00"} {
		for _, new := range []string{second(nil, nil), "", "odd", second(ats(8, 8), nil), second(ats(8), []int{1, 1}, "g", "f"), second(ats(8), nil)} {
			wantNoRead(t, linked(old, new), 8, api.ErrIndex)
			wantNoRead(t, linked(old, new, h("a/", 0)), 8, api.ErrIndex)
		}
	}
}

// firsts are first linker members without pairs, each of another length.
func firsts() []string {
	return []string{high4(0), high4(0) + "\x00", high4(0) + "\x00\x00", high4(0) + strings.Repeat("\x00", 9)}
}

// secondAt is where the second linker member's header stands.
func secondAt(old string) int { return 8 + 60 + len(padded(old)) }

// 23.8: what Split refuses is refused at the second linker member.
func TestReadSecondLinker(t *testing.T) {
	for _, old := range firsts() {
		at := secondAt(old)
		member := at + 60 + len(second(ats(0), nil))
		for _, new := range []string{"", "\x00", low4(0), second(nil, nil) + "\x00", low4(1<<32-1) + low4(0), second(ats(member), []int{0}, "f"), second(ats(member), nil) + low4(0)} {
			wantNoRead(t, linked(old, new), at, api.ErrSecond)
			wantNoRead(t, linked(old, new, h("a/", 0)), at, api.ErrSecond)
		}
		wantNoRead(t, linked(old, second(ats(member), []int{1, 1}, "g", "f"), h("a/", 0)), at, api.ErrSorted)
		wantNoRead(t, linked(old, second(ats(1, 2), []int{2, 1}, "f", "f")), at, api.ErrSorted)
	}
}

// 23.8: its places are just those of the members' headers; a table is none.
func TestReadPlaces(t *testing.T) {
	for _, old := range firsts() {
		at := secondAt(old)
		begin := at + 60 + 16
		parts := []string{whole("a/", "x"), whole("b/", "xy")}
		wantRead(t, linked(old, second(ats(begin, begin+62), nil), parts...), parsed(old, 0, ats(begin, begin+62), members(mem("a", "x"), mem("b", "xy"))), nil)
		for _, places := range [][]int{{begin, begin + 61}, {begin, begin + 63}, {begin - 1, begin + 62}, {begin + 1, begin + 62}, {begin - 2, begin + 60}, {0, 1}, {8, at}, {begin + 62, begin + 124}, {begin, 1<<32 - 1}} {
			wantNoRead(t, linked(old, second(places, nil), parts...), at, api.ErrSecond)
		}
		one, three := begin-4, begin+4
		wantNoRead(t, linked(old, second(nil, nil), parts...), at, api.ErrSecond)
		wantNoRead(t, linked(old, second(ats(one), nil), parts...), at, api.ErrSecond)
		wantNoRead(t, linked(old, second(ats(one+62), nil), parts...), at, api.ErrSecond)
		wantNoRead(t, linked(old, second(ats(three, three+62, three+124), nil), parts...), at, api.ErrSecond)
		wantNoRead(t, linked(old, second(ats(at, three, three+62), nil), parts...), at, api.ErrSecond)
		wantNoRead(t, linked(old, second(ats(one), nil)), at, api.ErrSecond)
		table := whole("//", "a.o\x00")
		wantNoRead(t, linked(old, second(ats(begin, begin+64), nil), table, parts[0]), at, api.ErrSecond)
		wantNoRead(t, linked(old, second(ats(begin-4), nil), table), at, api.ErrSecond)
		wantRead(t, linked(old, second(ats(one+64), nil), table, parts[0]), parsed(old, 0, ats(one+64), members(mem("a", "x"))), nil)
	}
}

// told is an archive of two members, whose linker members have these pairs; a place is that of a member's header, counted from 0, if it is none of a whole archive.
func told(old, new []api.Entry) (string, int) {
	length := func(l []api.Entry) int { return len(padded(first(l...))) }
	begin := 8 + 60 + length(old) + 60 + (16+2*len(new)+namesLength(new)+1)/2*2
	at := ats(begin, begin+62)
	place := func(l []api.Entry) []api.Entry {
		var placed []api.Entry
		for _, x := range l {
			if x.At < len(at) {
				x.At = at[x.At]
			}
			placed = append(placed, x)
		}
		return placed
	}
	var numbers []int
	var names []string
	for _, x := range new {
		numbers, names = append(numbers, x.At+1), append(names, x.Name)
	}
	one := first(place(old)...)
	return linked(one, second(at, numbers, names...), whole("a/", "x"), whole("b/", "xy")), secondAt(one)
}

func namesLength(l []api.Entry) int {
	length := len(l)
	for _, x := range l {
		length += len(x.Name)
	}
	return length
}

// 23.8: the two tell the same pairs, each as often.
func TestReadTwoTell(t *testing.T) {
	f0, f1, g0, g1 := pair("f", 0), pair("f", 1), pair("g", 0), pair("g", 1)
	for _, x := range []struct{ old, new []api.Entry }{
		{list(f0), nil}, {nil, list(f0)}, {list(f0), list(f1)}, {list(f0), list(g0)}, {list(f0), list(f0, f0)}, {list(f0, f0), list(f0)}, {list(f0, f1), list(f0)}, {list(f1, f0), list(f1)},
		{list(f0, f0, g0), list(f0, g0, g0)}, {list(f0, f0, f1), list(f0, f1, f1)}, {list(f0, g1), list(f1, g0)}, {list(g0, f1, f1), list(f0, f1, g0)}, {list(f0), list(f0, f1, g0, g1)},
		{list(pair("f", 8)), list(f0)}, {list(f0, pair("f", 8)), list(f0)}, {list(pair("f", 1<<32-1)), nil}, {list(pair("F", 0)), list(f0)}, {list(pair("ff", 0)), list(f0)},
	} {
		b, at := told(x.old, x.new)
		wantNoRead(t, b, at, api.ErrTwoTell)
	}
}

// 23.8: in whatever order the first one tells them.
func TestReadAnyOrder(t *testing.T) {
	new := list(pair("f", 0), pair("f", 0), pair("f", 1), pair("g", 0), pair("h", 1))
	for _, old := range permutations(new) {
		b, at := told(old, new)
		begin := at + 60 + 16 + 20
		placed := func(l []api.Entry) []api.Entry {
			var all []api.Entry
			for _, x := range l {
				all = append(all, pair(x.Name, begin+62*x.At))
			}
			return all
		}
		wantRead(t, b, parsed(first(placed(old)...), 0, ats(begin, begin+62), members(mem("a", "x"), mem("b", "xy"))), placed(new))
	}
}

// 23.8: where several of these refusals apply the first one is answered.
func TestReadLinkersInOrder(t *testing.T) {
	bad, old := high4(0)+"x", high4(0)
	wantNoRead(t, linked(bad, second(ats(8), []int{1, 1}, "g", "f")), 8, api.ErrIndex)
	wantNoRead(t, linked(bad, second(ats(8), nil)), 8, api.ErrIndex)
	wantNoRead(t, linked(old, second(ats(8), []int{1, 1}, "g", "f")), 72, api.ErrSorted)
	wantNoRead(t, linked(old, second(ats(8), []int{1, 1}, "g", "f")+"x"), 72, api.ErrSecond)
	wantNoRead(t, linked(old, second(ats(8), []int{1}, "f")), 72, api.ErrSecond)
	wantNoRead(t, linked(first(pair("f", 9)), second(ats(8), []int{1}, "f")), 78, api.ErrSecond)
	wantNoRead(t, linked(first(pair("f", 9)), second(nil, nil)), 78, api.ErrTwoTell)
}
