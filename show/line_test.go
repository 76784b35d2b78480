package show_test

import (
	"fmt"
	"math"
	"testing"

	"shelf/api"
	"shelf/text"
)

// 14.1: every piece is told of its own field, and of no other.
func TestLinePieces(t *testing.T) {
	wantLine(t, api.Member{}, "--------- 0/0      0 Jan  1 00:00 1970 \"\"\n")
	wantLine(t, api.Member{Meta: api.Meta{Mode: 0o755}}, "rwxr-xr-x 0/0      0 Jan  1 00:00 1970 \"\"\n")
	wantLine(t, api.Member{Meta: api.Meta{UID: 7}}, "--------- 7/0      0 Jan  1 00:00 1970 \"\"\n")
	wantLine(t, api.Member{Meta: api.Meta{GID: 7}}, "--------- 0/7      0 Jan  1 00:00 1970 \"\"\n")
	wantLine(t, api.Member{Size: 7}, "--------- 0/0      7 Jan  1 00:00 1970 \"\"\n")
	wantLine(t, api.Member{Meta: api.Meta{Date: 951782400}}, "--------- 0/0      0 Feb 29 00:00 2000 \"\"\n")
	wantLine(t, api.Member{Name: "a.o"}, "--------- 0/0      0 Jan  1 00:00 1970 a.o\n")
	wantLine(t, api.Member{Data: "hello\n"}, "--------- 0/0      0 Jan  1 00:00 1970 \"\"\n")
	wantLine(t, api.Member{Meta: api.Meta{Date: 4107542399, UID: 12, GID: 34, Mode: 0o4711}, Name: "z", Size: 56, Data: "other"}, "rws--x--x 12/34     56 Feb 28 23:59 2100 z\n")
}

// 14.1: the size ends at the sixth column, or is told whole if it is wider.
func TestLineSizes(t *testing.T) {
	for _, c := range []struct {
		size int
		told string
	}{
		{0, "     0"}, {9, "     9"}, {10, "    10"}, {999, "   999"}, {1000, "  1000"}, {99999, " 99999"}, {100000, "100000"}, {999999, "999999"},
		{1000000, "1000000"}, {1234567, "1234567"}, {api.MaxSize, "9999999999"}, {math.MaxInt, "9223372036854775807"},
		{-1, "    -1"}, {-9999, " -9999"}, {-10000, "-10000"}, {-99999, "-99999"}, {-100000, "-100000"}, {math.MinInt, "-9223372036854775808"},
	} {
		m := member("a.o", "hello")
		m.Size = c.size
		wantLine(t, m, "rw-r--r-- 1000/100 "+c.told+" Feb 29 00:00 2000 a.o\n")
	}
}

// 14.1: users and groups in decimal, as wide as they are.
func TestLineOwners(t *testing.T) {
	for _, c := range []struct {
		uid, gid int
		told     string
	}{
		{0, 0, "0/0"}, {1, 0, "1/0"}, {0, 1, "0/1"}, {10, 100, "10/100"}, {-1, 100, "-1/100"}, {100, -1, "100/-1"}, {-5, -6, "-5/-6"},
		{999999, 1000000, "999999/1000000"}, {1234567, 7654321, "1234567/7654321"},
		{math.MaxInt, math.MinInt, "9223372036854775807/-9223372036854775808"},
		{math.MinInt, math.MaxInt, "-9223372036854775808/9223372036854775807"},
	} {
		m := member("a.o", "hello")
		m.UID, m.GID = c.uid, c.gid
		wantLine(t, m, "rw-r--r-- "+c.told+"      5 Feb 29 00:00 2000 a.o\n")
	}
}

// 14.1: dates at the bounds and beyond them.
func TestLineDates(t *testing.T) {
	for _, c := range []struct {
		date int
		told string
	}{
		{0, "Jan  1 00:00 1970"}, {59, "Jan  1 00:00 1970"}, {60, "Jan  1 00:01 1970"}, {86400 * 31, "Feb  1 00:00 1970"}, {951782400, "Feb 29 00:00 2000"},
		{api.MaxDate, "Sep 27 01:46 33658"},
		{api.MaxDate + 1, "??? ?? ??:?? ????"}, {math.MaxInt, "??? ?? ??:?? ????"}, {-1, "??? ?? ??:?? ????"}, {math.MinInt, "??? ?? ??:?? ????"},
	} {
		m := member("a.o", "hello")
		m.Date = c.date
		wantLine(t, m, "rw-r--r-- 1000/100      5 "+c.told+" a.o\n")
	}
}

// 14.1: modes, with bits beyond the twelve that are told.
func TestLineModes(t *testing.T) {
	for _, c := range []struct {
		mode int
		told string
	}{
		{0, "---------"}, {0o644, "rw-r--r--"}, {0o4755, "rwsr-xr-x"}, {0o2670, "rw-rws---"}, {0o1777, "rwxrwxrwt"}, {0o7000, "--S--S--T"}, {0o7777, "rwsrwsrwt"},
		{0o10000, "---------"}, {0o100644, "rw-r--r--"}, {-1, "rwsrwsrwt"}, {-0o10000, "---------"}, {math.MinInt, "---------"}, {math.MaxInt, "rwsrwsrwt"},
	} {
		m := member("a.o", "hello")
		m.Mode = c.mode
		wantLine(t, m, c.told+" 1000/100      5 Feb 29 00:00 2000 a.o\n")
	}
}

// 14.1: names, quoted where they must be.
func TestLineNames(t *testing.T) {
	for _, name := range quotedNames() {
		wantLine(t, member(name[0], "hello"), "rw-r--r-- 1000/100      5 Feb 29 00:00 2000 "+name[1]+"\n")
	}
}

// 14.1: all numbers in all fields, by the chapter's words.
func TestLineNumbers(t *testing.T) {
	all := numbers()
	for i, a := range all {
		for j, b := range all {
			m := api.Member{Meta: api.Meta{Date: a, UID: b, GID: all[(i+j)%len(all)], Mode: a ^ b}, Name: "x y", Size: all[(i+7)%len(all)], Data: "d"}
			wantLine(t, m, fmt.Sprintf("%s %d/%d %6d %s \"x y\"\n", text.ModeString(m.Mode), m.UID, m.GID, m.Size, text.DateString(m.Date)))
		}
	}
}
