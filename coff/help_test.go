package coff_test

import (
	"fmt"
	"slices"
	"testing"

	"shelf/api"
	"shelf/coff"
)

// short tells a value in few letters.
func short(v any) string { return fmt.Sprintf("%.300s", fmt.Sprint(v)) }

func wantSecond(t *testing.T, at []int, l []api.Entry, want string) {
	t.Helper()
	atBefore, before := slices.Clone(at), slices.Clone(l)
	if b, e := coff.Second(at, l); b != want || e != api.OK {
		t.Errorf("Second(%s, %s): % .300x, %d, want % .300x", short(at), short(l), b, e, want)
	}
	if !slices.Equal(at, atBefore) || !slices.Equal(l, before) {
		t.Errorf("Second changed what it was given: %s, %s", short(atBefore), short(before))
	}
}

func wantNoSecond(t *testing.T, at []int, l []api.Entry, e api.Errno) {
	t.Helper()
	if b, got := coff.Second(at, l); b != "" || got != e {
		t.Errorf("Second(%s, %s): %d bytes, %d, want %d", short(at), short(l), len(b), got, e)
	}
}

func wantSplit(t *testing.T, data string, at []int, l []api.Entry) {
	t.Helper()
	gotAt, got, e := coff.Split(data)
	if !slices.Equal(gotAt, at) || !slices.Equal(got, l) || e != api.OK {
		t.Errorf("Split(% .300x): %s, %s, %d, want %s, %s", data, short(gotAt), short(got), e, short(at), short(l))
	}
}

// wantNoSplit wants the refusal of Find, too.
func wantNoSplit(t *testing.T, data string, e api.Errno) {
	t.Helper()
	if at, l, got := coff.Split(data); at != nil || l != nil || got != e {
		t.Errorf("Split(% .300x): %s, %s, %d, want %d", data, short(at), short(l), got, e)
	}
	for _, name := range []string{"f", "go", ""} {
		if at, got := coff.Find(data, name); at != 0 || got != e {
			t.Errorf("Find(% .300x, %q): %d, %d, want %d", data, name, at, got, e)
		}
	}
}

func wantFind(t *testing.T, data, name string, at int, e api.Errno) {
	t.Helper()
	if got, gotE := coff.Find(data, name); got != at || gotE != e {
		t.Errorf("Find(% .300x, %q): %d, %d, want %d, %d", data, name, got, gotE, at, e)
	}
}

func wantBuild(t *testing.T, l []api.Member, stamp int, want string) {
	t.Helper()
	before := slices.Clone(l)
	b, e := coff.Build(l, stamp)
	if b != want || e != api.OK {
		t.Errorf("Build(%s, %d), %d:\n got %.2000q\nwant %.2000q", short(l), stamp, e, b, want)
	}
	if !slices.Equal(l, before) {
		t.Errorf("Build changed what it was given: %s", short(before))
	}
}

func wantNoBuild(t *testing.T, l []api.Member, stamp int, e api.Errno) {
	t.Helper()
	if b, got := coff.Build(l, stamp); b != "" || got != e {
		t.Errorf("Build(%d members %s, %d): %d bytes, %d, want %d", len(l), short(l[:min(len(l), 3)]), stamp, len(b), got, e)
	}
}

// built is what Build answers where it must not refuse.
func built(t *testing.T, l []api.Member, stamp int) string {
	t.Helper()
	b, e := coff.Build(l, stamp)
	if e != api.OK {
		t.Fatalf("Build(%s, %d): %d", short(l), stamp, e)
	}
	return b
}

// parsed is what Read is to tell of an archive.
func parsed(index string, stamp int, at []int, l []api.Member) api.Parsed {
	return api.Parsed{Archive: api.Archive{Kind: api.GNU, Form: api.Index32, Index: index, Stamp: stamp, Members: l}, At: at}
}

func sameParsed(a, b api.Parsed) bool {
	return a.Kind == b.Kind && a.Form == b.Form && a.Index == b.Index && a.Stamp == b.Stamp &&
		slices.Equal(a.Members, b.Members) && slices.Equal(a.At, b.At)
}

func wantRead(t *testing.T, b string, p api.Parsed, l []api.Entry) {
	t.Helper()
	got, gotList, place, e := coff.Read(b)
	if !sameParsed(got, p) || !slices.Equal(gotList, l) || place != 0 || e != api.OK {
		t.Errorf("Read(%.1000q), %d, %d:\n got %s, %s\nwant %s, %s", b, place, e, short(got), short(gotList), short(p), short(l))
	}
}

func wantNoRead(t *testing.T, b string, place int, e api.Errno) {
	t.Helper()
	p, l, at, got := coff.Read(b)
	if at != place || got != e {
		t.Errorf("Read(%.1000q): %d at %d, want %d at %d", b, got, at, e, place)
	}
	if !sameParsed(p, api.Parsed{}) || p.Members != nil || p.At != nil || l != nil {
		t.Errorf("Read(%.1000q): with its refusal it tells %s, %s", b, short(p), short(l))
	}
}
