package link_test

import (
	"fmt"
	"math"
	"math/rand"
	"strings"
	"testing"

	"shelf/api"
	"shelf/index"
	"shelf/lay"
	"shelf/link"
	"shelf/pack"
	"shelf/vfs"
)

// dice are what chance decides, the same for the same seed.
type dice struct{ *rand.Rand }

func newDice(seed int) dice { return dice{rand.New(rand.NewSource(int64(seed)))} }

// one is one of these.
func one[T any](d dice, list ...T) T { return list[d.Intn(len(list))] }

// often is true n times of ten.
func (d dice) often(n int) bool { return d.Intn(10) < n }

// some is a list of fewer than n of what next gives.
func some[T any](d dice, n int, next func() T) []T {
	var list []T
	for range d.Intn(n) {
		list = append(list, next())
	}
	return list
}

// name is a symbol's name, of few, so that names meet.
func (d dice) name() string { return one(d, "a", "b", "c", "d", "e", "f", "g", "h", "", "a b") }

func (d dice) names() []string { return some(d, 4, d.name) }

// at is a place, of few.
func (d dice) at() int {
	return one(d, 8, 70, 140, 200, 300, 400, 0, -1, math.MaxInt, math.MinInt)
}

func (d dice) entry() api.Entry { return api.Entry{Name: d.name(), At: d.at()} }

// library is any library, its lists of whatever lengths.
func (d dice) library() api.Library {
	return api.Library{Entries: some(d, 12, d.entry), At: some(d, 8, d.at), Names: d.names(), Defines: some(d, 8, d.names), Needs: some(d, 8, d.names)}
}

func (d dice) number() int { return one(d, 0, 1, 2, -1, math.MaxInt, math.MinInt) }

// link is any link.
func (d dice) link() api.Link {
	return api.Link{Defined: d.names(), Wanted: some(d, 6, d.name), Pulled: some(d, 4, func() api.Place { return api.Place{Lib: d.number(), At: d.at()} })}
}

// 18.3 to 18.5: any libraries and any links, against the chapter's own words.
func TestSearchAgainstModel(t *testing.T) {
	pulled := map[int]int{}
	for seed := range 60000 {
		d := newDice(seed)
		lib, number, st := d.library(), d.number(), d.link()
		got := link.Search(lib, number, st)
		wantLink(t, fmt.Sprintf("seed %d: Search(%+v, %d, %s)", seed, lib, number, told(st)), got, toldSearch(lib, number, st))
		pulled[len(got.Pulled)-len(st.Pulled)]++
		libs := some(d, 4, d.library)
		wantLink(t, fmt.Sprintf("seed %d: Group(%+v, %s)", seed, libs, told(st)), link.Group(libs, st), toldGroup(libs, st))
		if t.Failed() {
			return
		}
	}
	for n := range 5 {
		if pulled[n] < 20 {
			t.Errorf("chance pulled in %d members only %d times", n, pulled[n])
		}
	}
}

// data are a member's: an object file, a spoilt one, or another one.
func (d dice) data() string {
	switch d.Intn(8) {
	case 0:
		return one(d, "", "text", "!<arch>\n")
	case 1:
		whole := object("a b", "c")
		return whole[:d.Intn(len(whole))]
	}
	var list []symbol
	for range d.Intn(5) {
		list = append(list, symbol{d.name(), one(d, 1, 1, 1, 2, 0), one(d, 0, 1, 1, 0xfff2)})
	}
	return objectOf(list...)
}

// parsed is an archive as chapter 9 tells it, or nearly so.
func (d dice) parsed() api.Parsed {
	var p api.Parsed
	for range d.Intn(5) {
		p.Members = append(p.Members, api.Member{Name: d.name(), Size: d.Intn(9), Data: d.data()})
		p.At = append(p.At, d.at())
	}
	p.Kind, p.Form = one(d, api.GNU, api.Thin, api.BSD), one[api.Form](d, 0, 0, 1, 2, 3, 3, 4)
	var list []api.Entry
	for range d.Intn(4) {
		if len(p.At) > 0 && d.often(9) {
			list = append(list, api.Entry{Name: d.name(), At: one(d, p.At...)})
		} else {
			list = append(list, d.entry())
		}
	}
	p.Index, _ = index.Encode(p.Form, list)
	if d.often(1) {
		p.At = some(d, 5, d.at)
	}
	return p
}

// 18.1, 18.2: archives of all sorts, against the chapter's own words.
func TestOpenAgainstModel(t *testing.T) {
	codes := map[api.Errno]int{}
	for seed := range 40000 {
		p := newDice(seed).parsed()
		want, code := toldOpen(p)
		wantOpen(t, fmt.Sprintf("seed %d: Open(%+v)", seed, p), p, want, code)
		codes[code]++
		if t.Failed() {
			return
		}
	}
	wantMet(t, codes, api.OK, api.ErrRange, api.ErrNoIndex, api.ErrIndex, api.ErrForm)
}

// wantMet: has chance met each of these codes?
func wantMet(t *testing.T, codes map[api.Errno]int, list ...api.Errno) {
	t.Helper()
	for _, code := range list {
		if codes[code] < 20 {
			t.Errorf("chance met %d (%v) only %d times", code, code, codes[code])
		}
	}
}

// file is a file's name, now and then one that is none.
func (d dice) file() string {
	if d.often(9) {
		return one(d, "1.o", "2.o", "3.o", "4.o", "5 .o")
	}
	return one(d, "ar.tmp~", "gone", strings.Repeat("n", 65))
}

// archive is an archive's bytes, or what was one: as commands leave it, without its index, or with another one.
func (d dice) archive(list files) string {
	var members []api.Member
	for range d.Intn(5) {
		m := member(d.file(), d.data())
		if x, there := list[m.Name]; there && d.Intn(30) > 0 {
			m = member(m.Name, x)
		}
		members = append(members, m)
	}
	kind := one(d, api.GNU, api.Thin, api.Thin, api.BSD)
	b, e := pack.Build(kind, members, 7, one(d, 1, api.Wide32, api.Wide32), d.Intn(12) == 0)
	if d.Intn(6) == 0 {
		b, e = d.lying(kind, members)
	}
	if e != api.OK {
		return "!<arch>\n"
	}
	if d.Intn(20) == 0 {
		b = b[:d.Intn(len(b))]
	}
	return b
}

// lying is an archive whose index says what it likes, mostly of places that are members'.
func (d dice) lying(kind api.Kind, members []api.Member) (string, api.Errno) {
	a := api.Archive{Kind: kind, Form: one(d, api.Index32, api.Index64)}
	if kind == api.BSD {
		a.Form = api.IndexBSD
	}
	var specs []api.Spec
	for _, m := range members {
		specs = append(specs, api.Spec{Name: m.Name, Size: m.Size})
		if kind == api.Thin {
			m.Data = ""
		}
		a.Members = append(a.Members, m)
	}
	names := []string{one(d, "a", "b"), one(d, "b", "c"), "d"}
	n, _ := index.Size(a.Form, names)
	l, _ := lay.Plan(kind, specs, n)
	var list []api.Entry
	for _, name := range names {
		at := 9
		if len(l.At) > 0 && d.Intn(30) > 0 {
			at = one(d, l.At...)
		}
		list = append(list, api.Entry{Name: name, At: at})
	}
	a.Index, _ = index.Encode(a.Form, list)
	return lay.Write(a)
}

// volumes are two volumes that are the same.
func (d dice) volumes(t *testing.T) (*vfs.FS, *vfs.FS) {
	list := files{}
	for _, name := range []string{"1.o", "2.o", "3.o", "4.o", "5 .o", "ar.tmp~"} {
		if d.Intn(30) > 0 {
			list[name] = d.data()
		}
	}
	for _, name := range []string{"a.a", "b.a", "c.a"} {
		if d.Intn(30) > 0 {
			list[name] = d.archive(list)
		}
	}
	if d.Intn(30) == 0 {
		list["1.o"] = "another one"
	}
	f, twin := volume(t, list), volume(t, list)
	if d.Intn(5) == 0 {
		plan := []api.Fault{{At: d.Intn(9), Kind: 1 + d.Intn(3)}}
		f.Arm(plan)
		twin.Arm(plan)
	}
	return f, twin
}

// 18.6, 18.7: volumes of archives of all sorts, against the chapter's own words.
func TestRunAgainstModel(t *testing.T) {
	codes := map[api.Errno]int{}
	for seed := range 20000 {
		d := newDice(seed)
		f, twin := d.volumes(t)
		archives := some(d, 5, func() string { return one(d, "a.a", "b.a", "c.a") })
		if d.Intn(20) == 0 {
			archives = append(archives, d.file())
		}
		root := one(d, "a", "b", "c")
		got, want := link.Run(f, root, archives), toldRun(twin, root, archives)
		what := fmt.Sprintf("seed %d: Run(%q, %q)", seed, root, archives)
		wantResult(t, what, got, want)
		if f.Calls() != twin.Calls() || f.Down() != twin.Down() {
			t.Errorf("%s: %d calls, want %d; down %v", what, f.Calls(), twin.Calls(), f.Down())
		}
		codes[got.Code]++
		if t.Failed() {
			return
		}
	}
	wantMet(t, codes, api.OK, api.ErrNone, api.ErrMissing, api.ErrIO, api.ErrDown, api.ErrMagic, api.ErrIndex, api.ErrReserved, api.ErrLost, api.ErrStale, api.ErrNoIndex)
}
