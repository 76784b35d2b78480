package part_test

import (
	"strings"
	"testing"

	"shelf/api"
	"shelf/part"
)

// A header is read with its name field, and nothing behind it.
func TestReadHead(t *testing.T) {
	for _, behind := range []string{"", "x", "hi", "hi there"} {
		x, e := part.ReadHead("ahead"+h("a/", 2)+behind, 5)
		if e != api.OK || x.At != 5 || x.End != 65 || x.Data != "" || x.Size != 2 || x.Date != 9 || x.Field != (api.Field{Sort: api.FieldShort, Name: "a"}) {
			t.Errorf("%q behind: %v, %v", behind, x, e)
		}
	}
	if x, e := part.ReadHead(h("/17", 3), 0); e != api.OK || x.Field != (api.Field{Sort: api.FieldRef, Num: 17}) {
		t.Errorf("%v, %v", x, e)
	}
}

// Of a header that is refused the place is told.
func TestReadHeadRefuses(t *testing.T) {
	b := "ahead" + h("a/b", 2) + "hi"
	for at, e := range map[int]api.Errno{5: api.ErrName, 4: api.ErrTail, 6: api.ErrTail, 8: api.ErrShort, -1: api.ErrShort, 67: api.ErrShort, 1<<63 - 1: api.ErrShort} {
		if x, got := part.ReadHead(b, at); x.At != at || got != e {
			t.Errorf("at %d: %d, %v, want %v", at, x.At, got, e)
		}
	}
}

// wantCut wants of the data behind a header what is told.
func wantCut(t *testing.T, size int, behind, data string, end int, want api.Errno) {
	t.Helper()
	b := "ahead" + h("a/", size) + behind
	x, e := part.ReadHead(b, 5)
	if e != api.OK {
		t.Fatalf("ReadHead: %v", e)
	}
	if e := x.CutData(b); e != want || e == api.OK && (x.Data != data || x.End != end || x.At != 5) {
		t.Errorf("%d of %q: %q up to %d, %v, want %q up to %d, %v", size, behind, x.Data, x.End, e, data, end, want)
	}
}

// The data are cut off, with the newline that is behind them if their length is odd.
func TestCutData(t *testing.T) {
	wantCut(t, 0, "", "", 65, api.OK)
	wantCut(t, 0, "\n", "", 65, api.OK)
	wantCut(t, 2, "hi", "hi", 67, api.OK)
	wantCut(t, 2, "hi\n", "hi", 67, api.OK)
	wantCut(t, 1, "x\n", "x", 67, api.OK)
	wantCut(t, 3, "abc\nrest", "abc", 69, api.OK)
	wantCut(t, 1, "\n\n", "\n", 67, api.OK)
	wantCut(t, 1, "", "", 0, api.ErrData)
	wantCut(t, 2, "x", "", 0, api.ErrData)
	wantCut(t, 3, "hi", "", 0, api.ErrData)
	wantCut(t, 9999999999, "hi", "", 0, api.ErrData)
	wantCut(t, 1, "x", "", 0, api.ErrPad)
	wantCut(t, 3, "abc", "", 0, api.ErrPad)
	wantCut(t, 1, "xy", "", 0, api.ErrPad)
	wantCut(t, 1, "\n\r", "", 0, api.ErrPad)
}

// The member has what the header and the data tell, and the name that it is given.
func TestNamed(t *testing.T) {
	b := h("/17", 3) + "abc\n"
	x, _ := part.ReadHead(b, 0)
	if e := x.CutData(b); e != api.OK {
		t.Fatalf("CutData: %v", e)
	}
	if m := x.Named("name"); m != mem("name", "abc") {
		t.Errorf("%v", m)
	}
}

// A header and its data take an even number of bytes.
func TestRoom(t *testing.T) {
	for data, room := range map[int]int{0: 60, 1: 62, 2: 62, 3: 64, 4: 64, 9999999999: 10000000060} {
		if got := part.Room(data); got != room {
			t.Errorf("Room(%d) is %d, want %d", data, got, room)
		}
	}
}

// Texts stand one behind the other, each with a newline behind it if its length is odd.
func TestJoin(t *testing.T) {
	for _, x := range []struct {
		texts []part.Text
		want  string
	}{
		{nil, ""},
		{[]part.Text{{}}, ""},
		{[]part.Text{{"!<arch>\n"}}, "!<arch>\n"},
		{[]part.Text{{"ab", "cd", "ef"}}, "abcdef"},
		{[]part.Text{{"ab", "", "c"}}, "abc\n"},
		{[]part.Text{{"ab", "c", ""}}, "abc\n"},
		{[]part.Text{{"ab", "c", "d"}}, "abcd"},
		{[]part.Text{{"a", "b", "c"}, {"", "", "d"}, {}, {"ef"}}, "abc\nd\nef"},
	} {
		if got := part.Join(x.texts); got != x.want {
			t.Errorf("Join(%q) is %q, want %q", x.texts, got, x.want)
		}
	}
}

// What is joined is read again, part by part.
func TestJoinIsRead(t *testing.T) {
	var texts []part.Text
	for size := range 20 {
		texts = append(texts, part.Text{h("a/", size), "", strings.Repeat("x", size)})
	}
	b, at := part.Join(texts), 0
	for size := range 20 {
		x, e := part.ReadHead(b, at)
		if e != api.OK {
			t.Fatalf("ReadHead: %v", e)
		}
		if e := x.CutData(b); e != api.OK || len(x.Data) != size || x.End != at+part.Room(size) {
			t.Errorf("at %d: %d bytes up to %d, %v", at, len(x.Data), x.End, e)
		}
		at = x.End
	}
	if at != len(b) {
		t.Errorf("the parts end at %d of %d", at, len(b))
	}
}
