package names_test

import (
	"slices"
	"strings"
	"testing"

	"shelf/api"
	"shelf/names"
)

// kinds are all three.
func kinds() []api.Kind { return []api.Kind{api.GNU, api.Thin, api.BSD} }

// oddBytes are bytes that may stand in a name.
func oddBytes() []string {
	return []string{" ", "\n", "\t", "\x01", "\x7f", "\x80", "\xff", "\xc2", "#", "1", "0", "`", "_"}
}

// wantRead wants f of a field.
func wantRead(t *testing.T, field string, f api.Field) {
	t.Helper()
	if got, e := names.Read(field); got != f || e != api.OK {
		t.Errorf("Read(%q): %+v, %d, want %+v", field, got, e, f)
	}
}

// wantUnread wants that each of the fields is refused.
func wantUnread(t *testing.T, fields ...string) {
	t.Helper()
	for _, field := range fields {
		if f, e := names.Read(field); f != (api.Field{}) || e != api.ErrName {
			t.Errorf("Read(%q): %+v, %d, want nothing, %d", field, f, e, api.ErrName)
		}
	}
}

// wantEncode wants n of the list, and the list as it was.
func wantEncode(t *testing.T, kind api.Kind, list []string, n api.Names) {
	t.Helper()
	before := slices.Clone(list)
	got, e := names.Encode(kind, list)
	if !sameNames(got, n) || e != api.OK {
		t.Errorf("Encode(%d, %q): %q, %d, want %q", kind, list, got, e, n)
	}
	if !slices.Equal(before, list) {
		t.Errorf("Encode(%d, %q) made %q of its list", kind, before, list)
	}
}

// wantUnwritten wants that the list is refused with e.
func wantUnwritten(t *testing.T, kind api.Kind, list []string, e api.Errno) {
	t.Helper()
	if got, gotE := names.Encode(kind, list); !sameNames(got, api.Names{}) || gotE != e {
		t.Errorf("Encode(%d, %q): %q, %d, want nothing, %d", kind, list, got, gotE, e)
	}
}

func sameNames(a, b api.Names) bool {
	return slices.Equal(a.Fields, b.Fields) && slices.Equal(a.Inline, b.Inline) && a.Table == b.Table
}

// wantLook wants the name, or the refusal e, at off in the table.
func wantLook(t *testing.T, table string, off int, name string, e api.Errno) {
	t.Helper()
	if got, gotE := names.Look(table, off); got != name || gotE != e {
		t.Errorf("Look(%.60q, %d): %.60q, %d, want %.60q, %d", table, off, got, gotE, name, e)
	}
}

// wantInline wants the name and the rest of data.
func wantInline(t *testing.T, data string, n int, name, rest string) {
	t.Helper()
	if got, gotRest, e := names.Inline(data, n); got != name || gotRest != rest || e != api.OK {
		t.Errorf("Inline(%.60q, %d): %.60q, %.60q, %d, want %.60q, %.60q", data, n, got, gotRest, e, name, rest)
	}
}

// wantNoInline wants that the n bytes ahead are refused.
func wantNoInline(t *testing.T, data string, n int) {
	t.Helper()
	if name, rest, e := names.Inline(data, n); name != "" || rest != "" || e != api.ErrName {
		t.Errorf("Inline(%q, %d): %q, %q, %d, want nothing, %d", data, n, name, rest, e, api.ErrName)
	}
}

// letters are n of them, no two beside each other equal.
func letters(n int) string { return strings.Repeat("abcdefghijklmnopqrstuvwxyz", n/26+1)[:n] }

// setByte is s with the byte c at at.
func setByte(s string, at int, c byte) string { return s[:at] + string([]byte{c}) + s[at+1:] }
