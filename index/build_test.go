package index_test

import (
	"encoding/binary"
	"fmt"
	"math"
	"runtime"
	"slices"
	"strings"
	"testing"

	"shelf/api"
	"shelf/index"
)

const wide32 = 4294967296

// forms are all that there are.
func forms() []api.Form { return []api.Form{api.Index32, api.Index64, api.IndexBSD} }

// noForms are numbers that are no form of an index.
func noForms() []api.Form {
	return []api.Form{api.NoIndex, -1, -2, -3, 4, 5, 7, 64, 255, 256, 257, 258, 259, 1<<32 + 1, 1<<32 + 2, 1<<32 + 3, math.MinInt, math.MinInt + 1, math.MaxInt}
}

// list is one of entries that are given as name, place, name, place.
func list(of ...any) []api.Entry {
	var l []api.Entry
	for i := 0; i < len(of); i += 2 {
		l = append(l, api.Entry{Name: of[i].(string), At: of[i+1].(int)})
	}
	return l
}

// namesOf are a list's names in order.
func namesOf(l []api.Entry) []string {
	var names []string
	for _, x := range l {
		names = append(names, x.Name)
	}
	return names
}

// ends are names, each with a byte 0 behind it.
func ends(names ...string) string {
	var s string
	for _, name := range names {
		s += name + "\x00"
	}
	return s
}

// big4, big8 and little4 are numbers, one behind the other.
func big4(of ...uint32) string {
	var b []byte
	for _, v := range of {
		b = binary.BigEndian.AppendUint32(b, v)
	}
	return string(b)
}

func big8(of ...uint64) string {
	var b []byte
	for _, v := range of {
		b = binary.BigEndian.AppendUint64(b, v)
	}
	return string(b)
}

func little4(of ...uint32) string {
	var b []byte
	for _, v := range of {
		b = binary.LittleEndian.AppendUint32(b, v)
	}
	return string(b)
}

// hex are the bytes that the examples spell; commas and blanks part them.
func hex(s string) string {
	var b []byte
	for _, w := range strings.FieldsFunc(s, func(r rune) bool { return r == ' ' || r == ',' }) {
		var v byte
		if _, err := fmt.Sscanf(w, "%02x", &v); err != nil || len(w) != 2 {
			panic(s)
		}
		b = append(b, v)
	}
	return string(b)
}

// few tells a list in few words.
func few(l []api.Entry) string {
	s := fmt.Sprintf("%d entries", len(l))
	for i := range min(len(l), 5) {
		s += fmt.Sprintf("; %.20q %d", l[i].Name, l[i].At)
	}
	return s
}

func wantSize(t *testing.T, form api.Form, names []string, n int, e api.Errno) {
	t.Helper()
	if got, gotE := index.Size(form, names); got != n || gotE != e {
		t.Errorf("Size(%d, %.60q): %d, %d, want %d, %d", form, names, got, gotE, n, e)
	}
}

// wantEncode wants these bytes, Size's number of them, and what 11.6 says.
func wantEncode(t *testing.T, form api.Form, l []api.Entry, b string) {
	t.Helper()
	if got, e := index.Encode(form, l); got != b || e != api.OK {
		t.Errorf("Encode(%d, %s): %.200q, %d, want %.200q", form, few(l), got, e, b)
		return
	}
	wantSize(t, form, namesOf(l), len(b), api.OK)
	if len(b)%2 != 0 {
		t.Errorf("Encode(%d, %s) has %d bytes", form, few(l), len(b))
	}
	wantDecode(t, form, b, l)
}

func wantNoEncode(t *testing.T, form api.Form, l []api.Entry, e api.Errno) {
	t.Helper()
	if got, gotE := index.Encode(form, l); got != "" || gotE != e {
		t.Errorf("Encode(%d, %s): %.100q, %d, want %d", form, few(l), got, gotE, e)
	}
}

// wantDecode wants these entries, and that Find answers the first of each name among them.
func wantDecode(t *testing.T, form api.Form, b string, l []api.Entry) {
	t.Helper()
	if got, e := index.Decode(form, b); !slices.Equal(got, l) || e != api.OK {
		t.Errorf("Decode(%d, %.200q): %s, %d, want %s", form, b, few(got), e, few(l))
		return
	}
	first := map[string]int{}
	for _, x := range slices.Backward(l) {
		first[x.Name] = x.At
	}
	for name, at := range first {
		wantFind(t, form, b, name, at, api.OK)
		if len(first) > 100 {
			break
		}
	}
	for _, name := range []string{"", "\x00", "no such name"} {
		wantFind(t, form, b, name, 0, api.ErrNone)
	}
}

// wantNoDecode wants the refusal of Decode and of Find.
func wantNoDecode(t *testing.T, form api.Form, b string, e api.Errno) {
	t.Helper()
	if got, gotE := index.Decode(form, b); got != nil || gotE != e {
		t.Errorf("Decode(%d, %.200q): %s, %d, want %d", form, b, few(got), gotE, e)
	}
	for _, name := range []string{"", "f", "go"} {
		wantFind(t, form, b, name, 0, e)
	}
}

func wantFind(t *testing.T, form api.Form, b, name string, at int, e api.Errno) {
	t.Helper()
	if got, gotE := index.Find(form, b, name); got != at || gotE != e {
		t.Errorf("Find(%d, %.200q, %.60q): %d, %d, want %d, %d", form, b, name, got, gotE, at, e)
	}
}

// wantTaken wants that Encode takes the list and writes what the model writes.
func wantTaken(t *testing.T, form api.Form, l []api.Entry) {
	t.Helper()
	b, e := modelEncode(form, l)
	if e != api.OK {
		t.Fatalf("the model refuses %s in form %d: %d", few(l), form, e)
	}
	wantEncode(t, form, l, b)
}

// memory is how many bytes a call takes of it, whether or not it gives them back.
func memory(call func()) uint64 {
	var before, behind runtime.MemStats
	runtime.ReadMemStats(&before)
	call()
	runtime.ReadMemStats(&behind)
	return behind.TotalAlloc - before.TotalAlloc
}
