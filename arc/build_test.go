package arc_test

import (
	"fmt"
	"slices"
	"strings"
	"testing"

	"shelf/api"
	"shelf/arc"
)

const (
	regular = "!<arch>\n"
	thin    = "!<thin>\n"
)

// head is a header with all its numbers.
func head(field string, m api.Meta, size int) string {
	return fmt.Sprintf("%-16s%-12d%-6d%-6d%-8o%-10d`\n", field, m.Date, m.UID, m.GID, m.Mode, size)
}

// h is the chapter's H(f, n).
func h(field string, size int) string { return head(field, api.Meta{Mode: 0o644}, size) }

// whole is a part with its data, and the newline if they call for one.
func whole(field, data string) string {
	return h(field, len(data)) + data + strings.Repeat("\n", len(data)%2)
}

// mem is what h and data are told as.
func mem(name, data string) api.Member {
	return api.Member{Meta: api.Meta{Mode: 0o644}, Name: name, Size: len(data), Data: data}
}

// away is what h is told as in a thin archive.
func away(name string, size int) api.Member {
	return api.Member{Meta: api.Meta{Mode: 0o644}, Name: name, Size: size}
}

// placed is a member with the place of its header.
type placed struct {
	at int
	api.Member
}

// parsed is what Parse is to tell.
func parsed(kind api.Kind, form api.Form, index string, list ...placed) api.Parsed {
	p := api.Parsed{Archive: api.Archive{Kind: kind, Form: form, Index: index}}
	for _, x := range list {
		p.At, p.Members = append(p.At, x.at), append(p.Members, x.Member)
	}
	return p
}

func sameParsed(a, b api.Parsed) bool {
	return a.Kind == b.Kind && a.Form == b.Form && a.Index == b.Index && a.Stamp == b.Stamp &&
		slices.Equal(a.Members, b.Members) && slices.Equal(a.At, b.At)
}

// short tells an archive in few words.
func short(p api.Parsed) string {
	s := fmt.Sprintf("kind %d, form %d, index %.20q, stamp %d, %d members at %d places", p.Kind, p.Form, p.Index, p.Stamp, len(p.Members), len(p.At))
	for i := range min(len(p.Members), len(p.At), 3) {
		s += fmt.Sprintf("; %d %.60q", p.At[i], fmt.Sprint(p.Members[i]))
	}
	return s
}

// last is the end of a file, where the trouble mostly is.
func last(b string) string { return b[max(0, len(b)-80):] }

// wantParse wants p of b, and that Each tells the same members.
func wantParse(t *testing.T, b string, p api.Parsed) {
	t.Helper()
	got, place, e := arc.Parse(b)
	if !sameParsed(got, p) || place != 0 || e != api.OK {
		t.Errorf("Parse(..%q): %s, %d, %d, want %s", last(b), short(got), place, e, short(p))
	}
	wantEach(t, b, p)
}

// wantRefused wants that b is refused at a place, and that Each tells the members ahead of it, which are those of the bytes ahead of it.
func wantRefused(t *testing.T, b string, place int, e api.Errno) {
	t.Helper()
	got, gotPlace, gotE := arc.Parse(b)
	if !sameParsed(got, api.Parsed{}) || gotPlace != place || gotE != e {
		t.Errorf("Parse(..%q): %s, %d, %d, want nothing, %d, %d", last(b), short(got), gotPlace, gotE, place, e)
	}
	if e == api.ErrMagic {
		wantEach(t, b, api.Parsed{})
		return
	}
	ahead, _, e := arc.Parse(b[:place])
	if e != api.OK {
		t.Errorf("Parse(..%q) refuses what stands ahead of %d: %d", last(b), place, e)
	}
	wantEach(t, b, ahead)
}

// wantEach wants that Each tells p's members, and again.
func wantEach(t *testing.T, b string, p api.Parsed) {
	t.Helper()
	each := arc.Each(b)
	if each == nil {
		t.Fatalf("Each(..%q) is nil", last(b))
	}
	for range 2 {
		var got api.Parsed
		for at, m := range each {
			got.At, got.Members = append(got.At, at), append(got.Members, m)
		}
		if !slices.Equal(got.At, p.At) || !slices.Equal(got.Members, p.Members) {
			t.Errorf("Each(..%q): %s, want %s", last(b), short(got), short(p))
		}
	}
}

// letters are n of them, no two beside each other equal.
func letters(n int) string { return strings.Repeat("abcdefghijklmnopqrstuvwxyz", n/26+1)[:n] }

// setByte is s with the byte c at at.
func setByte(s string, at int, c byte) string { return s[:at] + string([]byte{c}) + s[at+1:] }
