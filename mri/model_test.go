package mri_test

import (
	"fmt"
	"math/rand"
	"strings"
	"testing"

	"shelf/api"
	"shelf/mri"
	"shelf/pack"
	"shelf/vfs"
)

// dice are what chance decides, the same for the same seed.
type dice struct{ *rand.Rand }

// one is one of these.
func one[T any](d dice, list ...T) T { return list[d.Intn(len(list))] }

// often is true n times of ten.
func (d dice) often(n int) bool { return d.Intn(10) < n }

// piece is a piece of a script's text.
func (d dice) piece() string {
	switch d.Intn(8) {
	case 0:
		return one(d, "\n", "\n", " ", ", ", "\t", "\r", "\r\n", "+\n", " +\n", " + ")
	case 1:
		return one(d, "(", ")", "*", ";", "+", "\xff", "\x00", "é", "()")
	case 2, 3:
		return one(d, "\n", " ") + one(d, "a", "b", "l.a", "(a)", "(a b)", "+")
	}
	w := one(d, allWords()...)
	text := one(d, w.text, strings.ToLower(w.text), mixed(w.text))
	rest, _ := behind(w)
	return text + one(d, rest, rest, rest, "", " a", " +\n") + one(d, "\n", "\n", "\n", " ", "*")
}

// 19.1 to 19.5: chance texts against the chapter's own words.
func TestDecodeAgainstModel(t *testing.T) {
	codes := map[api.Errno]int{}
	for seed := range int64(100000) {
		d := dice{rand.New(rand.NewSource(seed))}
		var text strings.Builder
		for range d.Intn(7) {
			text.WriteString(d.piece())
		}
		got, line, e := mri.Decode(text.String())
		want, wantLine, wantE := toldDecode(text.String())
		if !same(got, want) || line != wantLine || e != wantE {
			t.Fatalf("seed %d: Decode(%q) = %+v, %d, %d, want %+v, %d, %d", seed, text.String(), got, line, e, want, wantLine, wantE)
		}
		codes[e]++
	}
	for _, e := range []api.Errno{api.OK, api.ErrVerb, api.ErrList} {
		if codes[e] < 5000 {
			t.Errorf("chance met %v only %d times", e, codes[e])
		}
	}
}

// name is a file's or member's name, or what could be given as one.
func (d dice) name() string {
	if d.often(9) {
		return one(d, "a", "b", "c.o", "d.o", "x")
	}
	return one(d, "a+b", "lib.a", "thin.a", temp, "x/y", "gone", "@a", "n\x00", strings.Repeat("n", 64), strings.Repeat("n", 65), "s", "\xff")
}

// library is an archive's name, or what could be given as one.
func (d dice) library() string {
	if d.often(9) {
		return one(d, "lib.a", "lib.a", "other.a", "new.a")
	}
	return one(d, "thin.a", "broken.a", "gone.a", d.name())
}

// data are a file's bytes.
func (d dice) data() string {
	switch d.Intn(6) {
	case 0:
		return object(one(d, "f", "g"), one(d, "h", "long_name"))
	case 1:
		return object("f")[:d.Intn(57)+250]
	case 2:
		return filled(d.Intn(1200))
	}
	return filled(d.Intn(5))
}

// meta are numbers, mostly such that an archive has room for them.
func (d dice) meta() api.Meta {
	m := api.Meta{Date: d.Intn(9), UID: d.Intn(3), GID: d.Intn(3), Mode: one(d, 0, 0o644, 0o755)}
	if d.Intn(60) == 0 {
		m.Date = one(d, -1, 999999999999, 1000000000000)
	}
	return m
}

// archive is an archive's bytes, or what was one.
func (d dice) archive(kind api.Kind) string {
	var members []api.Member
	for range d.Intn(5) {
		m := api.Member{Meta: d.meta(), Name: d.name(), Data: d.data()}
		m.Size = len(m.Data)
		members = append(members, m)
	}
	b, e := pack.Build(kind, members, d.Intn(9), api.Wide32, d.often(5))
	if e != api.OK {
		return regular()
	}
	return b
}

// chanceFiles are a volume's files, the script s among them.
func (d dice) chanceFiles() files {
	list := files{}
	for _, name := range []string{"a", "b", "c.o", "d.o", "x", "a+b", temp} {
		if d.often(9) {
			list[name] = file{d.data(), d.meta()}
		}
	}
	for _, name := range []string{"lib.a", "other.a"} {
		if d.often(9) {
			list[name] = file{d.archive(one(d, api.GNU, api.BSD)), d.meta()}
		}
	}
	list["thin.a"] = file{d.archive(api.Thin), d.meta()}
	whole := d.archive(api.GNU)
	list["broken.a"] = file{whole[:d.Intn(len(whole))], d.meta()}
	list["s"] = file{mri.Text(d.commands()), d.meta()}
	return list
}

// commands are a script's, mostly with an archive that is opened first.
func (d dice) commands() []api.Mri {
	var list []api.Mri
	if d.often(5) {
		list = append(list, of(api.MriVerbose, ""))
	}
	if d.often(9) {
		list = append(list, of(one(d, api.MriCreate, api.MriOpen, api.MriOpen), d.library()))
	}
	for range d.Intn(8) {
		c := api.Mri{Verb: d.Intn(13) + 1, Name: d.library()}
		if d.often(3) {
			c.Verb = one(d, api.MriAddMod, api.MriReplace, api.MriSave, api.MriDelete, api.MriExtract, api.MriAddLib)
		}
		for range one(d, 0, 1, 1, 1, 2, 3) {
			c.Names = append(c.Names, d.name())
		}
		if c.Verb == api.MriEnd && d.often(7) {
			continue
		}
		list = append(list, c)
	}
	return list
}

// plan are faults.
func (d dice) plan() []api.Fault {
	var plan []api.Fault
	for range max(0, d.Intn(5)-2) {
		plan = append(plan, api.Fault{At: d.Intn(20), Kind: d.Intn(5), N: d.Intn(600) - 5})
	}
	return plan
}

// environment is an environment; now and then its numbers are such that nothing can be built.
func (d dice) environment() api.Env {
	return api.Env{Now: one(d, 0, 7, 100, 100, 100, -1), UID: d.Intn(9), GID: d.Intn(9), Wide: one(d, 0, 0, 0, 0, 1, 200, 400, api.Wide32, -1)}
}

// scene is a volume with little room or much, some of its files not durable; and another one that is alike.
func (d dice) scene(t *testing.T) (*vfs.FS, *vfs.FS, string) {
	list := d.chanceFiles()
	used := 0
	for _, x := range list {
		used += len(x.data)
	}
	room := used + one(d, 20000, 20000, 20000, 900, 300, 0)
	first, second := roomFor(t, room, list), roomFor(t, room, list)
	if d.often(2) {
		for _, f := range []*vfs.FS{first, second} {
			f.Remove("b")
			f.Rename("a", "x")
		}
	}
	plan := d.plan()
	first.Arm(plan)
	second.Arm(plan)
	return first, second, list["s"].data
}

// 19.8 to 19.17 at once: chance volumes, scripts and plans, against the chapter's own words; now and behind a restart.
func TestRunAgainstModel(t *testing.T) {
	codes := map[api.Errno]int{}
	for seed := range int64(40000) {
		d := dice{rand.New(rand.NewSource(seed))}
		f, twin, text := d.scene(t)
		e := d.environment()
		name := "s"
		if d.Intn(50) == 0 {
			name = d.name()
		}
		what := fmt.Sprintf("seed %d: %q, %q, %+v", seed, name, text, e)
		got, want := mri.Run(f, name, e), toldRun(twin, name, e)
		codes[got.Code]++
		wantResult(t, what, got, want)
		wantCalls(t, what, f, twin.Calls())
		if f.Down() != twin.Down() {
			t.Errorf("%s: Down() = %v", what, f.Down())
		}
		if f.Down() || d.often(5) {
			dirOps, cuts := d.Intn(5), []int{d.Intn(9), d.Intn(600)}
			f.Restart(dirOps, cuts)
			twin.Restart(dirOps, cuts)
		}
		wantFiles(t, what, f, look(t, twin))
		if t.Failed() {
			return
		}
	}
	for _, code := range []api.Errno{
		api.OK, api.ErrWide, api.ErrRange, api.ErrMissing, api.ErrFull, api.ErrFileName, api.ErrIO, api.ErrDown, api.ErrMagic, api.ErrFar, api.ErrNoMember, api.ErrUnsure, api.ErrReserved, api.ErrKind, api.ErrVerb, api.ErrNoOpen, api.ErrList,
	} {
		if codes[code] < 5 {
			t.Errorf("chance met %d (%v) only %d times", code, code, codes[code])
		}
	}
	t.Log(codes)
}
