package pack_test

import (
	"encoding/binary"
	"fmt"
	"math/rand"
	"slices"
	"strings"
	"testing"

	"shelf/api"
	"shelf/arc"
	"shelf/index"
	"shelf/lay"
	"shelf/pack"
	"shelf/syms"
)

// modelName is a name's field and what stands ahead of the data, as chapter 8 says it; the table grows by what it needs there.
func modelName(kind api.Kind, name string, table *string) (string, string) {
	if kind == api.BSD {
		if len(name) > 16 || strings.Contains(name, " ") || name == "__.SYMDEF" {
			return fmt.Sprint("#1/", len(name)), name
		}
		return name, ""
	}
	if kind == api.GNU && len(name) < 16 {
		return name + "/", ""
	}
	place := len(*table)
	*table += name + "/\n"
	return fmt.Sprint("/", place), ""
}

// padded is a text with a byte more, if its length is odd.
func padded(s, with string) string { return s + strings.Repeat(with, len(s)%2) }

// modelIndex writes an index by chapter 11's table.
func modelIndex(form api.Form, list []api.Entry) string {
	texts := ""
	var ats, pairs []byte
	for _, x := range list {
		pairs = binary.LittleEndian.AppendUint32(pairs, uint32(len(texts)))
		pairs = binary.LittleEndian.AppendUint32(pairs, uint32(x.At))
		texts += x.Name + "\x00"
		if form == api.Index32 {
			ats = binary.BigEndian.AppendUint32(ats, uint32(x.At))
		} else {
			ats = binary.BigEndian.AppendUint64(ats, uint64(x.At))
		}
	}
	texts = padded(texts, "\x00")
	switch form {
	case api.Index32:
		return string(binary.BigEndian.AppendUint32(nil, uint32(len(list)))) + string(ats) + texts
	case api.Index64:
		return string(binary.BigEndian.AppendUint64(nil, uint64(len(list)))) + string(ats) + texts
	}
	first := binary.LittleEndian.AppendUint32(nil, uint32(8*len(list)))
	return string(first) + string(pairs) + string(binary.LittleEndian.AppendUint32(nil, uint32(len(texts)))) + texts
}

// modelLayout is chapter 10's Plan of what it takes: lengths, and the sums of them.
func modelLayout(kind api.Kind, list []api.Unit, n int) api.Layout {
	l := api.Layout{Total: 8}
	table := ""
	var rooms []int
	for _, u := range list {
		_, ahead := modelName(kind, u.Name, &table)
		room := 60
		if kind != api.Thin {
			room += (len(ahead) + u.Size + 1) / 2 * 2
		}
		rooms = append(rooms, room)
	}
	if n >= 0 {
		l.Total += 60 + n
	}
	l.Table = len(table)
	if table != "" {
		l.Total += 60 + len(padded(table, "\n"))
	}
	for _, room := range rooms {
		l.At = append(l.At, l.Total)
		l.Total += room
	}
	return l
}

// modelRefusal is what chapter 10 refuses of units.
func modelRefusal(kind api.Kind, list []api.Unit) api.Errno {
	for _, u := range list {
		if u.Name == "" || strings.ContainsAny(u.Name, "/\x00") {
			return api.ErrName
		}
	}
	table := ""
	for _, u := range list {
		_, ahead := modelName(kind, u.Name, &table)
		if u.Size < 0 || u.Size > maxSize-len(ahead) {
			return api.ErrSize
		}
	}
	return api.OK
}

// farthest is the place of the last unit that has a symbol: no place that an index tells is above it.
func farthest(list []api.Unit, at []int) int {
	far := -1
	for i, u := range list {
		if len(u.Syms) > 0 {
			far = at[i]
		}
	}
	return far
}

// modelPlan is 12.2 by other means: all forms at once, and then the choice.
func modelPlan(kind api.Kind, list []api.Unit, wide int) (api.Plan, api.Errno) {
	if kind < 0 || kind > 2 || wide < 1 || wide > wide32 {
		return api.Plan{}, api.ErrRange
	}
	var entries []api.Entry
	for _, u := range list {
		for _, name := range u.Syms {
			if name == "" || strings.Contains(name, "\x00") {
				return api.Plan{}, api.ErrName
			}
			entries = append(entries, api.Entry{Name: name})
		}
	}
	if e := modelRefusal(kind, list); e != api.OK {
		return api.Plan{}, e
	}
	if entries == nil {
		return api.Plan{Layout: modelLayout(kind, list, -1)}, api.OK
	}
	plans := map[api.Form]api.Plan{}
	for _, form := range []api.Form{api.Index32, api.Index64, api.IndexBSD} {
		n := len(modelIndex(form, entries))
		plans[form] = api.Plan{Layout: modelLayout(kind, list, n), Form: form, Index: n}
	}
	switch {
	case kind == api.BSD && farthest(list, plans[api.IndexBSD].At) >= wide:
		return api.Plan{}, api.ErrFar
	case kind == api.BSD:
		return plans[api.IndexBSD], api.OK
	case farthest(list, plans[api.Index32].At) >= wide:
		return plans[api.Index64], api.OK
	}
	return plans[api.Index32], api.OK
}

// whole is a header with what stands behind it, and the newline if that calls for one.
func whole(field string, m api.Meta, size int, data string) string {
	return fmt.Sprintf("%-16s%-12d%-6d%-6d%-8o%-10d`\n", field, m.Date, m.UID, m.GID, m.Mode, size) + padded(data, "\n")
}

// isWide: has a number no room in its column?
func isWide(m api.Meta) bool {
	return min(m.Date, m.UID, m.GID, m.Mode) < 0 || m.Date > 999999999999 || m.UID > 999999 || m.GID > 999999 || m.Mode > 16777215
}

// modelUnits is what a model is told of members: names are those that the members' objects were made with.
func modelUnits(list []api.Member, names [][]string) []api.Unit {
	var all []api.Unit
	for i, m := range list {
		all = append(all, unit(m.Name, m.Size, names[i]...))
	}
	return all
}

// modelBuild is 12.4 by other means.
func modelBuild(kind api.Kind, list []api.Member, names [][]string, stamp, wide int, bare bool) (string, api.Errno) {
	units := modelUnits(list, names)
	if bare {
		wide = wide32
		for i := range units {
			units[i].Syms = nil
		}
	}
	p, e := modelPlan(kind, units, wide)
	if e != api.OK {
		return "", e
	}
	if p.Form == api.NoIndex {
		stamp = 0
	}
	wrong := isWide(api.Meta{Date: stamp})
	for _, m := range list {
		if kind != api.Thin && m.Size != len(m.Data) {
			return "", api.ErrSize
		}
		wrong = wrong || isWide(m.Meta)
	}
	if wrong {
		return "", api.ErrWide
	}
	var entries []api.Entry
	for i, u := range units {
		for _, name := range u.Syms {
			entries = append(entries, api.Entry{Name: name, At: p.At[i]})
		}
	}
	return modelBytes(kind, p.Form, entries, stamp, list), api.OK
}

// modelBytes writes an archive down.
func modelBytes(kind api.Kind, form api.Form, entries []api.Entry, stamp int, list []api.Member) string {
	b := "!<arch>\n"
	if kind == api.Thin {
		b = "!<thin>\n"
	}
	if form != api.NoIndex {
		content := modelIndex(form, entries)
		b += whole([]string{"", "/", "/SYM64/", "__.SYMDEF"}[form], api.Meta{Date: stamp}, len(content), content)
	}
	table, behind := "", ""
	for _, m := range list {
		field, ahead := modelName(kind, m.Name, &table)
		if kind == api.Thin {
			behind += whole(field, m.Meta, m.Size, "")
		} else {
			behind += whole(field, m.Meta, len(ahead)+m.Size, ahead+m.Data)
		}
	}
	if table != "" {
		b += whole("//", api.Meta{}, len(table), table)
	}
	return b + behind
}

// wantBuild wants these bytes, and what 12.5 to 12.7 say of them.
func wantBuild(t *testing.T, kind api.Kind, list []api.Member, stamp, wide int, bare bool, want string) {
	t.Helper()
	b, e := pack.Build(kind, list, stamp, wide, bare)
	if e != api.OK || b != want {
		t.Errorf("Build(%d, %s, %d, %d, %v): %d, %.300q, want %.300q", kind, short(list), stamp, wide, bare, e, b, want)
		return
	}
	if !bare {
		wantTruth(t, kind, list, stamp, wide, b)
	}
}

// wantTruth wants 12.5, 12.6 and 12.7 of what Build made of these members, not bare.
func wantTruth(t *testing.T, kind api.Kind, list []api.Member, stamp, wide int, b string) {
	t.Helper()
	p, at, e := arc.Parse(b)
	if e != api.OK || len(p.Members) != len(list) {
		t.Errorf("Parse of Build(%d, %s): %d at %d, %d members", kind, short(list), e, at, len(p.Members))
		return
	}
	var pairs []api.Entry
	for i, m := range list {
		for _, name := range syms.Globals(m.Data) {
			pairs = append(pairs, api.Entry{Name: name, At: p.At[i]})
		}
		if kind == api.Thin {
			m.Data = ""
		}
		if p.Members[i] != m {
			t.Errorf("Build(%d, %s): member %d is read as %.200s", kind, short(list), i, fmt.Sprint(p.Members[i]))
		}
	}
	wantIndex(t, kind, p, pairs, stamp, wide)
	q, e := pack.Plan(kind, pack.Units(list), wide)
	if e != api.OK || q.Total != len(b) || !slices.Equal(q.At, p.At) || q.Form != p.Form || q.Index != len(p.Index) {
		t.Errorf("Build(%d, %s): %d bytes, headers at %v, Plan says %v, %d", kind, short(list), len(b), p.At, q, e)
	}
}

// wantIndex wants that an archive's index has just these pairs, in a form that goes with its places.
func wantIndex(t *testing.T, kind api.Kind, p api.Parsed, pairs []api.Entry, stamp, wide int) {
	t.Helper()
	if len(pairs) == 0 {
		if p.Form != api.NoIndex || p.Index != "" || p.Stamp != 0 {
			t.Errorf("kind %d: an index without symbols: form %d, %q, stamp %d", kind, p.Form, p.Index, p.Stamp)
		}
		return
	}
	got, e := index.Decode(p.Form, p.Index)
	if e != api.OK || !slices.Equal(got, pairs) || p.Stamp != stamp {
		t.Errorf("kind %d: the index says %v, %d, stamp %d, want %v, %d", kind, got, e, p.Stamp, pairs, stamp)
	}
	above := slices.ContainsFunc(pairs, func(x api.Entry) bool { return x.At >= wide })
	if want := (map[api.Kind]map[bool]api.Form{api.GNU: {false: api.Index32, true: api.Index64}, api.Thin: {false: api.Index32, true: api.Index64}, api.BSD: {false: api.IndexBSD}})[kind][above]; p.Form != want {
		t.Errorf("kind %d, wide %d: form %d of %v, want %d", kind, wide, p.Form, pairs, want)
	}
}

// pick is one of a list, by chance.
func pick[T any](r *rand.Rand, of ...T) T { return of[r.Intn(len(of))] }

// chanceName is a member's name, and seldom none.
func chanceName(r *rand.Rand) string {
	if r.Intn(100) == 0 {
		return pick(r, "", "/", "a/b", "\x00", letters(20)+"/")
	}
	return pick(r, "a", "a", "a.o", "a b", "__.SYMDEF", letters(15), letters(16), letters(17), letters(1+r.Intn(30)))
}

// chanceSymbols are names of symbols, some of them several times, and seldom one that is none.
func chanceSymbols(r *rand.Rand) []string {
	var names []string
	for range pick(r, 0, 0, 1, 1, 2, 5) {
		names = append(names, pick(r, "f", "f", "go", "main", "a b", "\xff", "/", letters(1+r.Intn(9))))
	}
	if r.Intn(100) == 0 {
		names = append(names, pick(r, "", "\x00", "f\x00"))
	}
	return names
}

// chanceWide is a threshold, mostly near the places of small archives, and seldom none.
func chanceWide(r *rand.Rand) int {
	if r.Intn(60) == 0 {
		return pick(r, noThresholds()...)
	}
	return pick(r, 1, wide32, 60+r.Intn(100), 60+r.Intn(1000), wide32-r.Intn(200))
}

// wantSeen wants that chance has led to each of the answers often enough to tell something, and to no other.
func wantSeen(t *testing.T, seen map[string]int, all ...string) {
	t.Helper()
	for _, s := range all {
		if seen[s] < 300 {
			t.Errorf("answer %s came up %d times", s, seen[s])
		}
		delete(seen, s)
	}
	if len(seen) > 0 {
		t.Errorf("answers of no promise: %v", seen)
	}
}

// forms are the kinds with their forms, as wantSeen is told them.
func forms() []string { return []string{"0 0", "0 1", "0 2", "1 0", "1 1", "1 2", "2 0", "2 3"} }

// 12.2, 12.3: chance units against the chapter's words.
func TestChancePlans(t *testing.T) {
	r := rand.New(rand.NewSource(122))
	seen := map[string]int{}
	for range 60000 {
		kind, wide := pick(r, kinds()...), chanceWide(r)
		if r.Intn(60) == 0 {
			kind = pick(r, noKinds()...)
		}
		var list []api.Unit
		for range r.Intn(7) {
			size := pick(r, 0, 1, r.Intn(100), r.Intn(wide32), wide32-60-r.Intn(300), maxSize)
			if r.Intn(100) == 0 {
				size = pick(r, -1, maxSize+1)
			}
			list = append(list, unit(chanceName(r), size, chanceSymbols(r)...))
		}
		p, e := modelPlan(kind, list, wide)
		if e != api.OK {
			seen[fmt.Sprint("refusal ", int(e))]++
			wantNoPlan(t, kind, list, wide, e)
			continue
		}
		seen[fmt.Sprint(int(kind), int(p.Form))]++
		wantPlan(t, kind, list, wide, p)
	}
	wantSeen(t, seen, append(forms(), "refusal 12", "refusal 80", "refusal 100", "refusal 111")...)
}

// chanceData is what a member may hold, with the names that it defines for others.
func chanceData(r *rand.Rand) (string, []string) {
	m := pick(r, machines()...)
	var list []symbol
	var names []string
	for range pick(r, 0, 1, 1, 3) {
		s := symbol{pick(r, "f", "f", "go", "main", "\xff", ""), pick(r, 0, 1, 1, 2, 3), pick(r, 0, 1, 1, 0xfff2)}
		list = append(list, s)
		if s.name != "" && (s.bind == 1 || s.bind == 2) && s.section != 0 {
			names = append(names, s.name)
		}
	}
	b := m.object(list...)
	switch r.Intn(6) {
	case 0:
		return b[:r.Intn(len(b))], nil
	case 1:
		return pick(r, "", "x", "text\n", "\x7fELF", "`\n"), nil
	case 2:
		return b + pick(r, "x", "yz"), names
	}
	return b, names
}

// chanceMember is a member, mostly a good one, with the names that it defines for others.
func chanceMember(r *rand.Rand, kind api.Kind) (api.Member, []string) {
	data, names := chanceData(r)
	m := api.Member{Name: chanceName(r), Size: len(data), Data: data}
	m.Meta = api.Meta{Date: pick(r, 0, 5, 999999999999), UID: pick(r, 0, 999999), GID: pick(r, 0, 1), Mode: pick(r, 0o644, 16777215)}
	if kind == api.Thin {
		m.Size = pick(r, m.Size, 0, r.Intn(1000), maxSize)
	}
	switch r.Intn(150) {
	case 0:
		m.UID = -1
	case 1:
		m.Mode = 16777216
	case 2:
		m.Size = pick(r, -1, maxSize+1)
	case 3:
		m.Size += r.Intn(3) - 1
	}
	return m, names
}

// 12.4 to 12.7: chance members against the chapter's words.
func TestChanceArchives(t *testing.T) {
	r := rand.New(rand.NewSource(124))
	seen := map[string]int{}
	for range 40000 {
		kind, wide, bare := pick(r, kinds()...), chanceWide(r), r.Intn(8) == 0
		if r.Intn(60) == 0 {
			kind = pick(r, noKinds()...)
		}
		var list []api.Member
		var names [][]string
		for range 1 + r.Intn(5) {
			m, defined := chanceMember(r, kind)
			list, names = append(list, m), append(names, defined)
		}
		stamp := pick(r, 0, 1, 99, 999999999999)
		if r.Intn(30) == 0 {
			stamp = pick(r, -1, 1000000000000)
		}
		b, e := modelBuild(kind, list, names, stamp, wide, bare)
		if e != api.OK {
			seen[fmt.Sprint("refusal ", int(e))]++
			wantNoBuild(t, kind, list, stamp, wide, bare, e)
			continue
		}
		p, _, _ := arc.Parse(b)
		seen[fmt.Sprint(int(kind), int(p.Form))]++
		wantBuild(t, kind, list, stamp, wide, bare, b)
		if again, e := lay.Write(p.Archive); e != api.OK || again != b {
			t.Errorf("Write of what Parse read of Build(%d, %s): %d", kind, short(list), e)
		}
	}
	wantSeen(t, seen, append(forms(), "refusal 11", "refusal 12", "refusal 80", "refusal 100", "refusal 111")...)
}
