package part_test

import (
	"fmt"
	"testing"

	"shelf/api"
	"shelf/part"
)

// h is a header with a name field and a size.
func h(field string, size int) string {
	return fmt.Sprintf("%-16s%-12d%-6d%-6d%-8o%-10d`\n", field, 9, 8, 7, 0o644, size)
}

// mem is what h and data are told as.
func mem(name, data string) api.Member {
	return api.Member{Meta: api.Meta{Date: 9, UID: 8, GID: 7, Mode: 0o644}, Name: name, Size: len(data), Data: data}
}

// take wants that a part stands at a place and ends at another one, and takes it.
func take(t *testing.T, r *part.Reader, at, end int) part.Part {
	t.Helper()
	x, e := r.Look(at)
	if e != api.OK || x.At != at || x.End != end {
		t.Fatalf("Look(%d): at %d, ends at %d, %v, want an end at %d", at, x.At, x.End, e, end)
	}
	r.Take(x)
	return x
}

// wantNone wants that no part stands at a place.
func wantNone(t *testing.T, r *part.Reader, at int, e api.Errno) {
	t.Helper()
	if x, got := r.Look(at); got != e || x.At != at {
		t.Errorf("Look(%d): at %d, %v, want %v", at, x.At, got, e)
	}
}

// The kind of a file is told by its magic, if it has one.
func TestKindByMagic(t *testing.T) {
	for _, x := range []struct {
		b    string
		kind api.Kind
		code api.Errno
	}{{"!<arch>\n", api.GNU, api.OK}, {"!<thin>\nx", api.Thin, api.OK}, {"!<thin>", 0, api.ErrMagic}, {"", 0, api.ErrMagic}, {"x!<arch>\n", 0, api.ErrMagic}} {
		if kind, e := part.KindByMagic(x.b); kind != x.kind || e != x.code {
			t.Errorf("KindByMagic(%q): %d, %v", x.b, kind, e)
		}
	}
}

// Looking takes nothing: what stands at a place hangs on the parts that were taken, not on those that were looked at.
func TestLookTakesNothing(t *testing.T) {
	b := "!<arch>\n" + h("a", 0) + h("//", 4) + "d/\n\n" + h("/0", 1) + "x\n" + h("/", 0)
	r := part.NewReader(b)
	for range 2 {
		wantNone(t, r, 132, api.ErrTable)
		for _, at := range []int{8, 68, 194} {
			if _, e := r.Look(at); e != api.OK {
				t.Errorf("Look(%d) with nothing taken: %v", at, e)
			}
		}
	}
	if x := take(t, r, 68, 132); x.IsOrdinary() {
		t.Errorf("the table is a member")
	}
	wantNone(t, r, 8, api.ErrMixed)
	wantNone(t, r, 194, api.ErrPlace)
	wantNone(t, r, 68, api.ErrPlace)
	if x := take(t, r, 132, 194); !x.IsOrdinary() || x.Member() != mem("d", "x") {
		t.Errorf("the member is %v", x.Member())
	}
}

// Any place may be looked at.
func TestAnyPlace(t *testing.T) {
	b := h("a/", 0) + "x"
	r := part.NewReader(b)
	for _, at := range []int{-1 << 63, -1, 2, 60, 61, 62, 1<<63 - 1} {
		wantNone(t, r, at, api.ErrShort)
	}
	wantNone(t, r, 1, api.ErrTail)
	take(t, r, 0, 60)
}

// What the parts tell is put into an archive one by one.
func TestAddTo(t *testing.T) {
	b := "!<arch>\n" + h("__.SYMDEF", 3) + "idx\n" + h("#1/2", 3) + "b\x00x\n" + h("a", 2) + "hi"
	r := part.NewReader(b)
	var p api.Parsed
	for at := 8; at < len(b); {
		x, e := r.Look(at)
		if e != api.OK {
			t.Fatalf("Look(%d): %v", at, e)
		}
		r.Take(x)
		x.AddTo(&p)
		at = x.End
	}
	if p.Kind != api.BSD || p.Form != api.IndexBSD || p.Index != "idx" || p.Stamp != 9 {
		t.Errorf("the archive is %v", p)
	}
	if len(p.Members) != 2 || len(p.At) != 2 || p.Members[0] != mem("b", "x") || p.Members[1] != mem("a", "hi") || p.At[0] != 72 || p.At[1] != 136 {
		t.Errorf("the members are %v at %v", p.Members, p.At)
	}
}
