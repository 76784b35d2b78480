package lay_test

import (
	"fmt"
	"math/rand"
	"slices"
	"strconv"
	"strings"
	"testing"

	"shelf/api"
)

func decimal(n int) string { return strconv.Itoa(n) }

// modelName is a name's field and what stands ahead of the data, as chapter 8 says it; the table grows by what it needs there.
func modelName(kind api.Kind, name string, table *string) (string, string) {
	if kind == api.BSD {
		if len(name) > 16 || strings.Contains(name, " ") || name == "__.SYMDEF" {
			return "#1/" + decimal(len(name)), name
		}
		return name, ""
	}
	if kind == api.GNU && len(name) < 16 {
		return name + "/", ""
	}
	place := len(*table)
	*table += name + "/\n"
	return "/" + decimal(place), ""
}

// modelRefusal is 10.5's list, each point for all members ahead of the next.
func modelRefusal(a api.Archive) api.Errno {
	if a.Kind != 0 && a.Kind != 1 && a.Kind != 2 {
		return api.ErrRange
	}
	if !slices.Contains(forms(a.Kind), a.Form) || a.Form == 0 && a.Index+decimal(a.Stamp) != "0" {
		return api.ErrForm
	}
	if len(a.Members) > maxMembers {
		return api.ErrRange
	}
	for _, m := range a.Members {
		if m.Name == "" || strings.ContainsAny(m.Name, "/\x00") {
			return api.ErrName
		}
	}
	table := ""
	for _, m := range a.Members {
		_, ahead := modelName(a.Kind, m.Name, &table)
		size := m.Size
		if a.Kind == api.Thin && m.Data != "" || a.Kind != api.Thin && size != len(m.Data) {
			return api.ErrSize
		}
		if size < 0 || size > maxSize || len(ahead)+size > maxSize || len(table) > maxTable {
			return api.ErrSize
		}
	}
	wide := a.Stamp < 0 || a.Stamp > 999999999999
	for _, m := range a.Members {
		wide = wide || m.Date < 0 || m.UID < 0 || m.GID < 0 || m.Mode < 0
		wide = wide || m.Date > 999999999999 || m.UID > 999999 || m.GID > 999999 || m.Mode > 16777215
	}
	if wide {
		return api.ErrWide
	}
	return api.OK
}

// modelWrite is the chapter's words by other means.
func modelWrite(a api.Archive) (string, api.Errno) {
	if e := modelRefusal(a); e != api.OK {
		return "", e
	}
	table, members := "", ""
	for _, m := range a.Members {
		field, ahead := modelName(a.Kind, m.Name, &table)
		if a.Kind == api.Thin {
			members += head(field, m.Meta, m.Size)
		} else {
			members += whole(field, m.Meta, ahead+m.Data)
		}
	}
	b := regular
	if a.Kind == api.Thin {
		b = thin
	}
	if a.Form != api.NoIndex {
		b += whole([]string{"", "/", "/SYM64/", "__.SYMDEF"}[a.Form], api.Meta{Date: a.Stamp}, a.Index)
	}
	if table != "" {
		b += whole("//", api.Meta{}, table)
	}
	return b + members, api.OK
}

// modelPlan is 10.3 by other means: a member has a length, and a place behind all that stand ahead of it.
func modelPlan(kind api.Kind, list []api.Spec, index int) (api.Layout, api.Errno) {
	if kind < 0 || kind > 2 || index < -1 || index > maxSize || len(list) > maxMembers {
		return api.Layout{}, api.ErrRange
	}
	var lengths []int
	table := ""
	bad := false
	for _, s := range list {
		if s.Name == "" || strings.ContainsAny(s.Name, "/\x00") {
			return api.Layout{}, api.ErrName
		}
		_, ahead := modelName(kind, s.Name, &table)
		bad = bad || s.Size < 0 || s.Size > maxSize-len(ahead)
		data := len(ahead) + s.Size
		if kind == api.Thin {
			data = 0
		}
		lengths = append(lengths, 60+(data+1)/2*2)
	}
	if bad || len(table) > maxTable {
		return api.Layout{}, api.ErrSize
	}
	l := api.Layout{Table: len(table), Total: 8}
	if table != "" {
		lengths = append([]int{60 + (len(table)+1)/2*2}, lengths...)
	}
	if index >= 0 {
		lengths = append([]int{60 + (index+1)/2*2}, lengths...)
	}
	for i, n := range lengths {
		if i >= len(lengths)-len(list) {
			l.At = append(l.At, l.Total)
		}
		l.Total += n
	}
	return l, api.OK
}

// pick is one of a list, by chance.
func pick[T any](r *rand.Rand, of ...T) T { return of[r.Intn(len(of))] }

// chanceText is up to a few bytes, some of which mean something elsewhere.
func chanceText(r *rand.Rand, most int) string {
	var s string
	for range r.Intn(most) {
		s += pick(r, "x", "yz", "\n", "\x00", "/\n", "`\n", "abc", "\xff", " ")
	}
	return s
}

// chanceName is a name, and seldom none.
func chanceName(r *rand.Rand) string {
	if r.Intn(80) == 0 {
		return pick(r, "", "/", "a/b", "\x00", letters(20)+"/")
	}
	return pick(r, "a", "a.o", "a b", " ", "a ", "__.SYMDEF", "#1", letters(14), letters(15), letters(16), letters(17), letters(1+r.Intn(40)), "\xff\n", "1", "!<arch>\n")
}

// chanceNumber is a number up to the most, and seldom one that is not.
func chanceNumber(r *rand.Rand, most int) int {
	switch r.Intn(300) {
	case 0:
		return most + 1
	case 1:
		return -1
	}
	return pick(r, 0, 1, most, r.Intn(most+1))
}

// chanceMember is a member of an archive of this kind, mostly a good one.
func chanceMember(r *rand.Rand, kind api.Kind) api.Member {
	m := api.Member{Name: chanceName(r), Data: chanceText(r, 8)}
	m.Meta = api.Meta{Date: chanceNumber(r, 999999999999), UID: chanceNumber(r, 999999), GID: chanceNumber(r, 999999), Mode: chanceNumber(r, 16777215)}
	m.Size = len(m.Data)
	if kind == api.Thin && r.Intn(100) > 0 {
		m.Data, m.Size = "", chanceNumber(r, maxSize)
	}
	if r.Intn(100) == 0 {
		m.Size += r.Intn(3) - 1
	}
	return m
}

// chanceArchive is an archive that Write takes, or nearly one.
func chanceArchive(r *rand.Rand) api.Archive {
	a := api.Archive{Kind: pick(r, kinds()...)}
	a.Form = pick(r, forms(a.Kind)...)
	if a.Form != api.NoIndex {
		a.Index, a.Stamp = chanceText(r, 12), chanceNumber(r, 999999999999)
	}
	switch r.Intn(100) {
	case 0:
		a.Kind = pick(r, noKinds()...)
	case 1:
		a.Form = api.Form(r.Intn(8) - 2)
	case 2:
		a.Form = api.NoIndex
	}
	for range r.Intn(7) {
		a.Members = append(a.Members, chanceMember(r, a.Kind))
	}
	return a
}

// wantSeen wants that chance has led to each of the answers often enough to tell something, and to no other.
func wantSeen(t *testing.T, seen map[api.Errno]int, all ...api.Errno) {
	t.Helper()
	for _, e := range all {
		if seen[e] < 500 {
			t.Errorf("answer %d came up %d times", e, seen[e])
		}
		delete(seen, e)
	}
	if len(seen) > 0 {
		t.Errorf("answers of no promise: %v", seen)
	}
}

// 10.1 to 10.8: chance archives against the chapter's words.
func TestChanceArchives(t *testing.T) {
	r := rand.New(rand.NewSource(1010))
	seen := map[api.Errno]int{}
	taken := map[string]int{}
	for range 100000 {
		a := chanceArchive(r)
		b, e := modelWrite(a)
		seen[e]++
		if e != api.OK {
			wantNoWrite(t, a, e)
			continue
		}
		wantWrite(t, a, b)
		if len(a.Members) > 0 {
			taken[fmt.Sprint(a.Kind, a.Form)]++
		}
	}
	wantSeen(t, seen, api.OK, api.ErrRange, api.ErrForm, api.ErrName, api.ErrSize, api.ErrWide)
	for _, kind := range []string{"0 0", "0 1", "0 2", "1 0", "1 1", "1 2", "2 0", "2 3"} {
		if taken[kind] < 500 {
			t.Errorf("archives of kind and form %s came up %d times", kind, taken[kind])
		}
	}
}

// 10.3, 10.4: chance lists against the chapter's words.
func TestChancePlans(t *testing.T) {
	r := rand.New(rand.NewSource(103))
	seen := map[api.Errno]int{}
	for range 100000 {
		kind, index := pick(r, kinds()...), pick(r, -1, 0, 1, r.Intn(100), chanceNumber(r, maxSize))
		if r.Intn(50) == 0 {
			kind = pick(r, noKinds()...)
		}
		if r.Intn(50) == 0 {
			index = -2
		}
		var list []api.Spec
		for range r.Intn(9) {
			list = append(list, spec(chanceName(r), pick(r, r.Intn(100), chanceNumber(r, maxSize), chanceNumber(r, maxSize-16))))
		}
		want, e := modelPlan(kind, list, index)
		seen[e]++
		if e != api.OK {
			wantNoPlan(t, kind, list, index, e)
			continue
		}
		wantPlan(t, kind, list, index, want.At, want.Table, want.Total)
	}
	wantSeen(t, seen, api.OK, api.ErrRange, api.ErrName, api.ErrSize)
}
