package lay_test

import (
	"fmt"
	"runtime"
	"slices"
	"strings"
	"testing"

	"shelf/api"
	"shelf/arc"
	"shelf/lay"
)

const (
	regular = "!<arch>\n"
	thin    = "!<thin>\n"
)

// kinds are all that there are.
func kinds() []api.Kind { return []api.Kind{api.GNU, api.Thin, api.BSD} }

// forms are those that go with a kind.
func forms(kind api.Kind) []api.Form {
	if kind == api.BSD {
		return []api.Form{api.NoIndex, api.IndexBSD}
	}
	return []api.Form{api.NoIndex, api.Index32, api.Index64}
}

// head is a header with all its numbers.
func head(field string, m api.Meta, size int) string {
	return fmt.Sprintf("%-16s%-12d%-6d%-6d%-8o%-10d`\n", field, m.Date, m.UID, m.GID, m.Mode, size)
}

// whole is a header with what stands behind it, and the newline if that calls for one.
func whole(field string, m api.Meta, data string) string {
	return head(field, m, len(data)) + data + strings.Repeat("\n", len(data)%2)
}

// plain is the Meta of members of which nothing is wanted.
var plain = api.Meta{Mode: 0o644}

// mem is a member of a regular archive.
func mem(name, data string) api.Member {
	return api.Member{Meta: plain, Name: name, Size: len(data), Data: data}
}

// away is a member of a thin archive.
func away(name string, size int) api.Member {
	return api.Member{Meta: plain, Name: name, Size: size}
}

// some is a member as archives of the kind have it.
func some(kind api.Kind, name, data string) api.Member {
	if kind == api.Thin {
		return away(name, len(data))
	}
	return mem(name, data)
}

func spec(name string, size int) api.Spec { return api.Spec{Name: name, Size: size} }

func specs(list ...api.Spec) []api.Spec { return list }

// specsOf is what Plan is told of an archive's members.
func specsOf(members []api.Member) []api.Spec {
	var list []api.Spec
	for _, m := range members {
		list = append(list, spec(m.Name, m.Size))
	}
	return list
}

// indexOf is the index's length, as Plan is told it.
func indexOf(a api.Archive) int {
	if a.Form == api.NoIndex {
		return -1
	}
	return len(a.Index)
}

// same holds two archives against each other; a list without elements is as good as none.
func same(a, b api.Archive) bool {
	return a.Kind == b.Kind && a.Form == b.Form && a.Index == b.Index && a.Stamp == b.Stamp && slices.Equal(a.Members, b.Members)
}

// short tells an archive in few words.
func short(a api.Archive) string {
	s := fmt.Sprintf("kind %d, form %d, index %.20q, stamp %d, %d members", a.Kind, a.Form, a.Index, a.Stamp, len(a.Members))
	for i := range min(len(a.Members), 4) {
		s += fmt.Sprintf("; %.80q", fmt.Sprint(a.Members[i]))
	}
	return s
}

// few tells a list in few words.
func few(list []api.Spec) string {
	s := fmt.Sprintf("%d members", len(list))
	for i := range min(len(list), 4) {
		s += fmt.Sprintf("; %.20q %d", list[i].Name, list[i].Size)
	}
	return s
}

func wantPlan(t *testing.T, kind api.Kind, list []api.Spec, index int, at []int, table, total int) {
	t.Helper()
	l, e := lay.Plan(kind, list, index)
	if e != api.OK || !slices.Equal(l.At, at) || l.Table != table || l.Total != total {
		t.Errorf("Plan(%d, %s, %d): %d places, %.60s, Table %d, Total %d, %d, want %d, %.60s, %d, %d", kind, few(list), index, len(l.At), fmt.Sprint(l.At), l.Table, l.Total, e, len(at), fmt.Sprint(at), table, total)
	}
}

func wantNoPlan(t *testing.T, kind api.Kind, list []api.Spec, index int, e api.Errno) {
	t.Helper()
	if l, got := lay.Plan(kind, list, index); got != e || len(l.At) != 0 || l.Table != 0 || l.Total != 0 {
		t.Errorf("Plan(%d, %s, %d): %d places, Table %d, Total %d, %d, want nothing, %d", kind, few(list), index, len(l.At), l.Table, l.Total, got, e)
	}
}

// wantWrite wants these bytes, and what 10.6 to 10.8 say of them.
func wantWrite(t *testing.T, a api.Archive, b string) {
	t.Helper()
	got, e := lay.Write(a)
	if e != api.OK || got != b {
		t.Errorf("Write(%s): %d, %.400q, want %.400q", short(a), e, got, b)
		return
	}
	wantPlaces(t, a, b)
	wantBack(t, a, b)
}

func wantNoWrite(t *testing.T, a api.Archive, e api.Errno) {
	t.Helper()
	if b, got := lay.Write(a); got != e || b != "" {
		t.Errorf("Write(%s): %d, %.100q, want %d", short(a), got, b, e)
	}
}

// wantPlaces wants 10.6: Plan's Total bytes, and a member's header at each of Plan's places; 10.1: all of them even.
func wantPlaces(t *testing.T, a api.Archive, b string) {
	t.Helper()
	l, e := lay.Plan(a.Kind, specsOf(a.Members), indexOf(a))
	if e != api.OK || l.Total != len(b) || len(l.At) != len(a.Members) {
		t.Fatalf("Plan of what Write takes (%s): %d, Total %d of %d, %d places", short(a), e, l.Total, len(b), len(l.At))
	}
	for i, at := range l.At {
		if at%2 != 0 || at+60 > len(b) || b[at+58:at+60] != "`\n" {
			t.Fatalf("%s: no header at %d", short(a), at)
		}
		m := a.Members[i]
		numbers := fmt.Sprintf("%-12d%-6d%-6d%-8o", m.Date, m.UID, m.GID, m.Mode)
		if b[at+16:at+48] != numbers {
			t.Errorf("%s: at %d stands %.60q", short(a), at, b[at:])
		}
	}
}

// wantBack wants 10.7 and 10.8 of what Write made of a.
func wantBack(t *testing.T, a api.Archive, b string) {
	t.Helper()
	want := a
	if a.Kind == api.BSD && a.Form == api.NoIndex && len(a.Members) == 0 {
		want.Kind = api.GNU
	}
	p, at, e := arc.Parse(b)
	if e != api.OK || !same(p.Archive, want) {
		t.Errorf("Parse of Write(%s): %s, %d, %d", short(a), short(p.Archive), at, e)
		return
	}
	if l, _ := lay.Plan(a.Kind, specsOf(a.Members), indexOf(a)); !slices.Equal(p.At, l.At) {
		t.Errorf("Parse of Write(%s): at %.100s, Plan's places are %.100s", short(a), fmt.Sprint(p.At), fmt.Sprint(l.At))
	}
	if again, e := lay.Write(p.Archive); e != api.OK || again != b {
		t.Errorf("Write of what Parse read of Write(%s): %d, %.200q", short(a), e, again)
	}
}

// letters are n of them, no two beside each other equal.
func letters(n int) string { return strings.Repeat("abcdefghijklmnopqrstuvwxyz", n/26+1)[:n] }

// often is a list of n times the same.
func often[T any](n int, x T) []T { return slices.Repeat([]T{x}, n) }

// memory is how many bytes a call takes of it, whether or not it gives them back.
func memory(call func()) uint64 {
	var before, behind runtime.MemStats
	runtime.ReadMemStats(&before)
	call()
	runtime.ReadMemStats(&behind)
	return behind.TotalAlloc - before.TotalAlloc
}
