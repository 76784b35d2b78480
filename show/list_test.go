package show_test

import (
	"strings"
	"testing"

	"shelf/api"
	"shelf/show"
)

// 14.2: of no members nothing is told.
func TestListOfNone(t *testing.T) {
	for _, verbose := range []bool{false, true} {
		wantList(t, nil, verbose, "")
		wantList(t, []api.Member{}, verbose, "")
		wantList(t, members(member("a.o", "hello"))[:0], verbose, "")
	}
}

// 14.2: the short list tells names alone.
func TestShortList(t *testing.T) {
	wantList(t, members(member("a.o", "hello")), false, "a.o\n")
	wantList(t, members(api.Member{}), false, "\"\"\n")
	wantList(t, members(member("b.o", ""), member("a.o", "hello"), member("b.o", "x\ny")), false, "b.o\na.o\nb.o\n")
	wantList(t, members(api.Member{Meta: api.Meta{Date: -1, UID: -1, GID: -1, Mode: -1}, Name: "a b", Size: -1}, member("", "")), false, "\"a b\"\n\"\"\n")
}

// 14.2: the long list is the members' lines.
func TestLongList(t *testing.T) {
	wantList(t, members(member("a.o", "hello")), true, "rw-r--r-- 1000/100      5 Feb 29 00:00 2000 a.o\n")
	late := api.Member{Meta: api.Meta{Date: -1, UID: -2, GID: -3, Mode: 0o4755}, Name: "x\n", Size: 1234567}
	wantList(t, members(late, member("a.o", "hello"), late), true,
		"rwsr-xr-x -2/-3 1234567 ??? ?? ??:?? ???? \"x\\n\"\nrw-r--r-- 1000/100      5 Feb 29 00:00 2000 a.o\nrwsr-xr-x -2/-3 1234567 ??? ?? ??:?? ???? \"x\\n\"\n")
}

// 14.2: names, quoted where they must be.
func TestListNames(t *testing.T) {
	var list []api.Member
	var short, long strings.Builder
	for _, name := range quotedNames() {
		m := member(name[0], name[1])
		list = append(list, m)
		short.WriteString(name[1] + "\n")
		long.WriteString(show.Line(m))
		wantList(t, members(m), false, name[1]+"\n")
		wantList(t, members(m), true, show.Line(m))
	}
	wantList(t, list, false, short.String())
	wantList(t, list, true, long.String())
}

// 14.2: of as many members as an archive may have, each is told.
func TestListOfMany(t *testing.T) {
	list := make([]api.Member, api.MaxMembers)
	for i := range list {
		list[i] = member("a.o", "hello")
	}
	if got := show.List(list, false); got != strings.Repeat("a.o\n", len(list)) {
		t.Errorf("the short list has %d bytes", len(got))
	}
	if got := show.List(list, true); got != strings.Repeat(show.Line(list[0]), len(list)) {
		t.Errorf("the long list has %d bytes", len(got))
	}
}
