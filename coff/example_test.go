package coff_test

import (
	"testing"

	"shelf/api"
)

// two is the second linker member of the chapter's examples.
var two = hex("02 00 00 00, 64 00 00 00 c8 00 00 00, 03 00 00 00, 01 00 01 00 02 00, 66 00 67 6f 00 67 6f 00")

// The chapter's examples of the second linker member, row by row.
func TestExamplesOfSecond(t *testing.T) {
	wantSecond(t, nil, nil, hex("00 00 00 00, 00 00 00 00"))
	wantSecond(t, ats(100, 200), list(pair("go", 200), pair("f", 100), pair("go", 100)), two)
	wantSplit(t, two, ats(100, 200), list(pair("f", 100), pair("go", 100), pair("go", 200)))
	wantFind(t, two, "go", 100, api.OK)
	wantFind(t, two, "f", 100, api.OK)
	wantFind(t, two, "x", 0, api.ErrNone)
	wantNoSecond(t, ats(200, 100), nil, api.ErrRange)
	wantNoSecond(t, ats(-1), nil, api.ErrRange)
	wantNoSecond(t, ats(1, 1), nil, api.ErrRange)
	wantNoSecond(t, ats(4294967296), nil, api.ErrFar)
	wantNoSecond(t, ats(8), list(pair("f", 9)), api.ErrIndex)
	wantNoSecond(t, ats(8), list(pair("", 9)), api.ErrName)
	wantNoSplit(t, "", api.ErrSecond)
	wantNoSplit(t, hex("00 00 00 00"), api.ErrSecond)
	wantNoSplit(t, hex("00 00 00 00 00 00 00 00 00"), api.ErrSecond)
	wantNoSplit(t, hex("01 00 00 00, 08 00 00 00, 01 00 00 00, 02 00, 66 00"), api.ErrSecond)
	wantNoSplit(t, hex("01 00 00 00, 08 00 00 00, 02 00 00 00, 01 00 01 00, 67 00 66 00"), api.ErrSorted)
	wantSplit(t, hex("01 00 00 00, 08 00 00 00, 02 00 00 00, 01 00 01 00, 66 00 66 00"), ats(8), list(pair("f", 8), pair("f", 8)))
}

// The chapter's examples of archives, row by row.
func TestExamplesOfArchives(t *testing.T) {
	empty := magic + h("/", 4) + hex("00 00 00 00") + h("/", 8) + hex("00 00 00 00 00 00 00 00")
	if len(empty) != 140 {
		t.Fatalf("%d bytes", len(empty))
	}
	wantBuild(t, nil, 0, empty)
	one := magic + h("/", 4) + hex("00 00 00 00") + h("/", 12) + hex("01 00 00 00 90 00 00 00 00 00 00 00") + h("a/", 2) + "xy"
	if len(one) != 144+62 {
		t.Fatalf("%d bytes", len(one))
	}
	wantBuild(t, members(mem("a", "xy")), 0, one)
	wantNoRead(t, magic, 8, api.ErrPlace)
	wantNoRead(t, magic+h("/", 4)+hex("00 00 00 00"), 72, api.ErrPlace)
	wantNoRead(t, magic+h("a/", 0), 8, api.ErrPlace)
	wantNoRead(t, setByte(empty, 132, 1), 72, api.ErrSecond)
}
