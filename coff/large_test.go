package coff_test

import (
	"fmt"
	"slices"
	"strings"
	"testing"
	"time"

	"shelf/api"
	"shelf/coff"
)

// wantSoon wants that what is done ends soon.
func wantSoon(t *testing.T, what string, do func()) {
	t.Helper()
	begun := time.Now()
	do()
	if took := time.Since(begun); took > 20*time.Second {
		t.Errorf("%s took %v", what, took)
	}
}

// R1: great second linker members are written, read and searched soon, in whatever order their pairs are given.
func TestGreatSecond(t *testing.T) {
	const places, pairs = 65535, 400000
	at := upTo(places)
	var l []api.Entry
	for i := range pairs {
		l = append(l, pair(fmt.Sprintf("symbol.%06d", (pairs-i)/2), i*7919%places))
	}
	wantSoon(t, "Second, Split and Find", func() {
		data, e := coff.Second(at, l)
		gotAt, got, e2 := coff.Split(data)
		if e != api.OK || e2 != api.OK || !slices.Equal(gotAt, at) || len(got) != pairs || got[0].Name != "symbol.000000" || got[pairs-1].Name != "symbol.200000" {
			t.Errorf("%d, %d: %d places, %d pairs", e, e2, len(gotAt), len(got))
		}
		want := min(l[100].At, l[101].At)
		if l[100].Name != l[101].Name && l[99].Name == l[100].Name {
			want = min(l[99].At, l[100].At)
		}
		wantFind(t, data, l[100].Name, want, api.OK)
		wantFind(t, data, "symbol.200001", 0, api.ErrNone)
	})
}

// R1: data that promise far more than they hold are refused soon.
func TestGreatPromises(t *testing.T) {
	const n = 1 << 22
	wantSoon(t, "Split of what is none", func() {
		for _, c := range []string{"\x00", "\x01", "\x7f", "\xff", "\x00\x01", "\x00\x00\x00\x01", "\x00\x00\x00\xff"} {
			wantNoSplit(t, strings.Repeat(c, n), api.ErrSecond)
		}
		wantNoSplit(t, low4(0)+low4(n/2)+strings.Repeat("\x01\x00", n/2), api.ErrSecond)
		wantNoSplit(t, low4(1)+low4(8)+low4(n)+strings.Repeat("\x01\x00", n), api.ErrSecond)
	})
}

// R1: great archives, and what is none, end soon.
func TestGreatFiles(t *testing.T) {
	const n = 1 << 24
	for _, x := range []struct {
		what, b string
		place   int
		e       api.Errno
	}{
		{"no header", magic + strings.Repeat("x", n), 8, api.ErrTail},
		{"ends of headers", magic + strings.Repeat(tail, n/2), 8, api.ErrField},
		{"linker members", magic + strings.Repeat(h("/", 0), n/60), 128, api.ErrPlace},
		{"members", magic + whole("/", first()) + h("/", 0) + strings.Repeat(h("a/", 0), n/60), 72, api.ErrSecond},
		{"members of no place", magic + none() + strings.Repeat(h("a/", 0), n/60), 72, api.ErrSecond},
		{"equal names in the table", magic + none() + whole("//", letters(2000)+"\x00") + strings.Repeat(h("/0", 0), n/60), 72, api.ErrSecond},
		{"names up to the end of the table", magic + none() + whole("//", letters(20000)) + strings.Repeat(h("/0", 0), n/60), 140 + 60 + 20000, api.ErrTable},
		{"a member that is cut", magic + none() + h("a/", n) + strings.Repeat("x", n-1), 140, api.ErrData},
	} {
		wantSoon(t, x.what, func() { wantNoRead(t, x.b, x.place, x.e) })
	}
}

// R1: many symbols in many members.
func TestGreatArchive(t *testing.T) {
	var names []string
	for i := range 50 {
		names = append(names, fmt.Sprint("symbol.", i))
	}
	data := defines(names...)
	l := slices.Repeat(members(member("a.long.name.of.a.member", data)), 4000)
	wantSoon(t, "Build and Read", func() {
		p, pairs, _, e := coff.Read(built(t, l, 5))
		if e != api.OK || !slices.Equal(p.Members, l) || len(pairs) != 50*4000 {
			t.Errorf("%d: %d members, %d pairs", e, len(p.Members), len(pairs))
		}
	})
}
