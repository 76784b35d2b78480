package show_test

import (
	"testing"

	"shelf/api"
)

// The chapter's examples, row by row.
func TestExamples(t *testing.T) {
	m := api.Member{Meta: api.Meta{Date: 0, UID: 1000, GID: 100, Mode: 0o644}, Name: "a.o", Size: 5, Data: "hello"}
	wantLine(t, m, "rw-r--r-- 1000/100      5 Jan  1 00:00 1970 a.o\n")
	wide := m
	wide.Name, wide.Size = "a b", 1234567
	wantLine(t, wide, "rw-r--r-- 1000/100 1234567 Jan  1 00:00 1970 \"a b\"\n")
	odd := m
	odd.UID, odd.Date = -1, -1
	wantLine(t, odd, "rw-r--r-- -1/100      5 ??? ?? ??:?? ???? a.o\n")
	line := m
	line.Name = "x\n"
	wantList(t, members(m, line), false, "a.o\n\"x\\n\"\n")
	wantList(t, nil, true, "")
	wantPrint(t, members(m, m), false, "hellohello")
	wantPrint(t, members(m), true, "\n<a.o>\n\nhello")
	wantEvents(t, events(event('r', "a.o"), event('u', "b.o"), event('a', "")), "r - a.o\na - \"\"\n")
	wantMessage(t, 0, "lib.a", api.ErrMagic, "ar: lib.a: not an archive\n")
	wantMessage(t, 1, "", api.ErrNoArchive, "ranlib: no archive named\n")
	wantMessage(t, 7, "", api.OK, "ar: no error\n")
	wantMessage(t, 0, "a b", api.Errno(9999), "ar: \"a b\": unknown error\n")
}
