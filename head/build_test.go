package head_test

import (
	"strings"
	"testing"

	"shelf/api"
	"shelf/head"
)

// end is the last two bytes of a header.
const end = "\x60\x0a"

// written is a header's fields as they stand, each without the blanks that fill it up.
type written struct{ name, date, user, group, mode, size string }

// plain is a header in which each number is another one.
func plain() written { return written{"hello.c/", "1234567", "501", "20", "644", "12"} }

// plainHead is what plain says.
func plainHead() api.Head {
	return api.Head{Meta: api.Meta{Date: 1234567, UID: 501, GID: 20, Mode: 420}, Name: "hello.c/", Size: 12}
}

// bytes is the header with its end.
func (w written) bytes() string {
	return fill(w.name, 16) + fill(w.date, 12) + fill(w.user, 6) + fill(w.group, 6) + fill(w.mode, 8) + fill(w.size, 10) + end
}

func fill(s string, width int) string { return s + strings.Repeat(" ", width-len(s)) }

// numberField is a header's number: where its field stands, and how to get at it in what is written and in what was read.
type numberField struct {
	what      string
	at, width int
	base      int
	most      int
	text      func(*written) *string
	value     func(*api.Head) *int
}

func numberFields() []numberField {
	return []numberField{
		{"date", 16, 12, 10, 999999999999, func(w *written) *string { return &w.date }, func(h *api.Head) *int { return &h.Date }},
		{"user", 28, 6, 10, 999999, func(w *written) *string { return &w.user }, func(h *api.Head) *int { return &h.UID }},
		{"group", 34, 6, 10, 999999, func(w *written) *string { return &w.group }, func(h *api.Head) *int { return &h.GID }},
		{"mode", 40, 8, 8, 16777215, func(w *written) *string { return &w.mode }, func(h *api.Head) *int { return &h.Mode }},
		{"size", 48, 10, 10, 9999999999, func(w *written) *string { return &w.size }, func(h *api.Head) *int { return &h.Size }},
	}
}

// with is plain with another text in the field, and what plain says with another number there.
func (f numberField) with(text string, n int) (written, api.Head) {
	w, h := plain(), plainHead()
	*f.text(&w), *f.value(&h) = text, n
	return w, h
}

// wantParse wants h of the header at at in b.
func wantParse(t *testing.T, b string, at int, h api.Head) {
	t.Helper()
	if got, e := head.Parse(b, at); got != h || e != api.OK {
		t.Errorf("Parse(%q, %d): %+v, %d, want %+v", b, at, got, e, h)
	}
}

// wantUnread wants that the header at at in b is refused with e.
func wantUnread(t *testing.T, b string, at int, e api.Errno) {
	t.Helper()
	if h, got := head.Parse(b, at); h != (api.Head{}) || got != e {
		t.Errorf("Parse(%q, %d): %+v, %d, want nothing, %d", b, at, h, got, e)
	}
}

// wantFormat wants the bytes b of h.
func wantFormat(t *testing.T, h api.Head, b string) {
	t.Helper()
	if got, e := head.Format(h); got != b || e != api.OK {
		t.Errorf("Format(%+v): %q, %d, want %q", h, got, e, b)
	}
}

// wantUnwritten wants that h is refused with e.
func wantUnwritten(t *testing.T, h api.Head, e api.Errno) {
	t.Helper()
	if b, got := head.Format(h); b != "" || got != e {
		t.Errorf("Format(%+v): %q, %d, want nothing, %d", h, b, got, e)
	}
}

// mustFormat is the header of h.
func mustFormat(t *testing.T, h api.Head) string {
	t.Helper()
	b, e := head.Format(h)
	if e != api.OK {
		t.Fatalf("Format(%+v): %d", h, e)
	}
	return b
}

// setByte is b with the byte c at at.
func setByte(b string, at int, c byte) string { return b[:at] + string([]byte{c}) + b[at+1:] }
