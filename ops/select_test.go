package ops_test

import (
	"slices"
	"testing"

	"shelf/api"
	"shelf/ops"
)

// 13.1: a name given several times, against fewer members of that name, as many, and more.
func TestSelectSeveralTimes(t *testing.T) {
	wantSelect(t, "b a c a a", "a", []int{1}, "")
	wantSelect(t, "b a c a a", "a a", []int{1, 3}, "")
	wantSelect(t, "b a c a a", "a a a", []int{1, 3, 4}, "")
	wantSelect(t, "b a c a a", "a a a a", []int{1, 3, 4}, "a")
	wantSelect(t, "b a c a a", "a a a a a a", []int{1, 3, 4}, "a a a")
	wantSelect(t, "a", "a a", []int{0}, "a")
}

// 13.1: both lists are in the order of names, not in that of the members.
func TestSelectOrder(t *testing.T) {
	wantSelect(t, "a b c", "c b a", []int{2, 1, 0}, "")
	wantSelect(t, "b a", "y a x b y", []int{1, 0}, "y x y")
	wantSelect(t, "a b a b a", "b a a b a", []int{1, 0, 2, 3, 4}, "")
	wantSelect(t, "a b", "z a z b a y", []int{0, 1}, "z z a y")
}

// 13.1: nothing is there, nothing is asked for.
func TestSelectNothing(t *testing.T) {
	wantSelect(t, "", "", nil, "")
	wantSelect(t, "a b", "", nil, "")
	wantSelect(t, "", "a b a", nil, "a b a")
	if n, m := ops.Select(nil, nil); len(n) != 0 || len(m) != 0 {
		t.Errorf("%v, %q", n, m)
	}
}

// 13.1: the empty name is one as any other.
func TestSelectEmptyName(t *testing.T) {
	wantSelect(t, "a - b -", "- - -", []int{1, 3}, "-")
	wantSelect(t, "a b", "-", nil, "-")
	wantSelect(t, "-", "a -", []int{0}, "a")
}

// 13.1: names are compared byte by byte: no blank, no case, no byte 0 and no byte that is no text is overlooked.
func TestSelectBytes(t *testing.T) {
	all := []string{"a", "a ", " a", "A", "a\x00", "\x00a", "a/", "\xff", "\xff\xfe", "\xc3\xa9", "e\xcc\x81", "\n", "\x00", "\x80", "\ufffd"}
	var members []api.Member
	for i, name := range all {
		members = append(members, member(name, i, ""))
	}
	for i, name := range all {
		if n, m := ops.Select(members, []string{name, name}); !slices.Equal(n, []int{i}) || !slices.Equal(m, []string{name}) {
			t.Errorf("%q: %v, missing %q, want %d", name, n, m, i)
		}
	}
}

// R1: long lists come to their end, of one name and of many.
func TestSelectLong(t *testing.T) {
	const count = 200000
	members := slices.Repeat(list("a b"), count)
	asked := append(slices.Repeat([]string{"b"}, count+2), slices.Repeat([]string{"a", "x"}, count)...)
	n, m := ops.Select(members, asked)
	if len(n) != 2*count || len(m) != count+2 {
		t.Fatalf("%d taken, %d missing", len(n), len(m))
	}
	for i := range count {
		if n[i] != 2*i+1 || n[count+i] != 2*i {
			t.Fatalf("%d: %d, %d", i, n[i], n[count+i])
		}
	}
}
