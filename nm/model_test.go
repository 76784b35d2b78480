package nm_test

import (
	"fmt"
	"math"
	"math/rand"
	"strings"
	"testing"

	"shelf/api"
	"shelf/nm"
	"shelf/pack"
	"shelf/vfs"
)

// dice are what chance decides, the same for the same seed.
type dice struct{ *rand.Rand }

func newDice(seed int) dice { return dice{rand.New(rand.NewSource(int64(seed)))} }

// one is one of these.
func one[T any](d dice, list ...T) T { return list[d.Intn(len(list))] }

// often is true n times of ten.
func (d dice) often(n int) bool { return d.Intn(10) < n }

// some is a list of fewer than n of what next gives.
func some[T any](d dice, n int, next func() T) []T {
	var list []T
	for range d.Intn(n) {
		list = append(list, next())
	}
	return list
}

// symbol is any symbol of an object file, its name and value of few, so that they meet.
func (d dice) symbol() api.Symbol {
	return api.Symbol{
		Name: one(d, "a", "b", "c", "A", "_", "é", "a b", "", "ab"), Bind: one(d, 0, 1, 1, 2, 10), Type: one(d, 0, 1, 2, 3, 4, 6), Other: d.Intn(3),
		Section: one(d, 0, 0, 1, 2, 3, 4, 5, 6, 99, 0xfff1, 0xfff2, 0xffff), Value: one[uint64](d, 0, 1, 2, 0x10, 0xabc, 1<<32-1), Size: uint64(d.Intn(3)),
	}
}

// row is any row.
func (d dice) row() api.Row {
	r := api.Row{Symbol: d.symbol(), Letter: one[byte](d, 'U', 'w', 'T', 't', 'W', 'C', 'd', 0, 0xff)}
	if d.often(1) {
		r.Section, r.Value = one(d, -1, math.MaxInt, math.MinInt), one[uint64](d, 1<<32, 1<<63, math.MaxUint64)
	}
	return r
}

func (d dice) rows() []api.Row { return some(d, 30, d.row) }

func (d dice) options() api.NmOpts {
	return options(one(d, "", "g") + one(d, "", "", "u") + one(d, "", "n") + one(d, "", "", "p") + one(d, "", "r") + one(d, "", "A") + one(d, "", "s"))
}

// 20.1: any symbols and sections, against the chapter's own words.
func TestLetterAgainstModel(t *testing.T) {
	met := map[byte]int{}
	for seed := range 100000 {
		d := newDice(seed)
		secs := some(d, 7, func() api.Section {
			return api.Section{Type: one(d, 0, 1, 8, 9), Flags: uint64(d.Intn(8)) | one[uint64](d, 0, 0, 8, 1<<63)}
		})
		s := d.row().Symbol
		got, want := nm.Letter(s, secs), toldLetter(s, secs)
		if got != want {
			t.Fatalf("seed %d: Letter(%+v, %+v) = %q, want %q", seed, s, secs, got, want)
		}
		met[got]++
	}
	for _, letter := range "wUCVWAa?BbTtDdRrNn" {
		if met[byte(letter)] < 100 {
			t.Errorf("chance met %q only %d times", letter, met[byte(letter)])
		}
	}
}

// 20.3, 20.4: any rows, against the chapter's own words.
func TestSortAndTextAgainstModel(t *testing.T) {
	for seed := range 30000 {
		d := newDice(seed)
		rows, o := d.rows(), d.options()
		what := fmt.Sprintf("seed %d: Sort(%v, %+v)", seed, rows, o)
		wantRows(t, what, nm.Sort(rows, o), toldSort(rows, o))
		class, prefix := one(d, 32, 64, 0, -1), one(d, "", "a:", "\xff", "a b:")
		wantText(t, class, prefix, toldText(rows, class, prefix), rows...)
		if t.Failed() {
			return
		}
	}
}

// data are a file's bytes: an object file, a spoilt one, or another one.
func (d dice) data() string {
	switch d.Intn(12) {
	case 0:
		return one(d, "", "hi", "!<arch>", "\x7fELF")
	case 1:
		whole := mixO()
		return whole[:d.Intn(len(whole))]
	case 2:
		whole := mainO()
		return changed(whole, d.Intn(one(d, len(whole), 16)), string([]byte{byte(d.Intn(256))}))
	}
	s := one(d, shapes()...)
	if d.often(2) {
		return s.object(sections()[:1+d.Intn(5)], some(d, 4, d.symbol), some(d, 4, d.symbol))
	}
	return s.object(sections(), some(d, 6, d.symbol))
}

// 20.2: any files, against the chapter's own words.
func TestRowsAgainstModel(t *testing.T) {
	codes := map[api.Errno]int{}
	for seed := range 30000 {
		b := newDice(seed).data()
		rows, e := nm.Rows(b)
		want, wantE := toldRows(b)
		wantRows(t, fmt.Sprintf("seed %d: Rows(%q)", seed, b), rows, want)
		if e != wantE {
			t.Errorf("seed %d: Rows(%q): %d, want %d", seed, b, e, wantE)
		}
		codes[e]++
		if t.Failed() {
			return
		}
	}
	wantMet(t, codes, api.OK, api.ErrNoELF, api.ErrClass, api.ErrByteOrder, api.ErrVersion, api.ErrCut, api.ErrEntSize, api.ErrString, api.ErrLink)
}

// wantMet: has chance met each of these codes?
func wantMet(t *testing.T, codes map[api.Errno]int, list ...api.Errno) {
	t.Helper()
	for _, code := range list {
		if codes[code] < 5 {
			t.Errorf("chance met %d (%v) only %d times", code, code, codes[code])
		}
	}
}

// file is a file's name, now and then one that is none.
func (d dice) file() string {
	if d.Intn(25) > 0 {
		return one(d, "1.o", "2.o", "3.o", "4 .o", "five")
	}
	return one(d, temp, "gone", strings.Repeat("n", 65))
}

// archive is an archive's bytes, or what was one.
func (d dice) archive(list files) string {
	var members []api.Member
	for range d.Intn(5) {
		m := api.Member{Name: d.file(), Data: d.data()}
		if x, there := list[m.Name]; there && d.Intn(25) > 0 {
			m.Data = x
		}
		m.Size = len(m.Data)
		members = append(members, m)
	}
	b, e := pack.Build(one(d, api.GNU, api.Thin, api.Thin, api.BSD), members, 7, one(d, 1, api.Wide32), d.often(1))
	if e != api.OK {
		return regular()
	}
	switch d.Intn(25) {
	case 0:
		b = b[:d.Intn(len(b))]
	case 1, 2:
		at := min(len(b)-1, 8+60+d.Intn(40)) // in the index, if there is one
		b = changed(b, at, string([]byte{byte(d.Intn(256))}))
	}
	return b
}

// scene is two volumes that are alike.
func (d dice) scene(t *testing.T) (*vfs.FS, *vfs.FS) {
	list := files{}
	for _, name := range []string{"1.o", "2.o", "3.o", "4 .o", "five", temp} {
		if d.Intn(25) > 0 {
			list[name] = d.data()
		}
	}
	for _, name := range []string{"a.a", "b.a", "c.a"} {
		if d.Intn(25) > 0 {
			list[name] = d.archive(list)
		}
	}
	f, twin := durable(t, list), durable(t, list)
	if d.Intn(5) == 0 {
		plan := []api.Fault{{At: d.Intn(7), Kind: 1 + d.Intn(3)}}
		f.Arm(plan)
		twin.Arm(plan)
	}
	return f, twin
}

// words are a command's words.
func (d dice) words() []string {
	args := some(d, 4, func() string {
		word := "-"
		for range 1 + d.Intn(3) {
			word += one(d, "A", "g", "n", "p", "r", "s", "s", "u")
		}
		if d.Intn(60) == 0 {
			word += one(d, "x", "é", "\xff", "-")
		}
		return word
	})
	for range one(d, 1, 1, 1, 2, 2, 3, 0) {
		args = append(args, one(d, "a.a", "b.a", "c.a", "a.a", "b.a", "c.a", d.file(), d.file(), "-"+d.file()))
	}
	return args
}

// 20.5 to 20.9: chance volumes and words, against the chapter's own words.
func TestRunAgainstModel(t *testing.T) {
	codes := map[api.Errno]int{}
	saidBehind := 0
	for seed := range 30000 {
		d := newDice(seed)
		f, twin := d.scene(t)
		args := d.words()
		what := fmt.Sprintf("seed %d: %q", seed, args)
		got, want := nm.Run(f, args), toldRun(twin, args)
		wantResult(t, what, got, want)
		wantCalls(t, what, f, twin.Calls())
		if f.Down() != twin.Down() {
			t.Errorf("%s: Down() = %v", what, f.Down())
		}
		codes[got.Code]++
		if strings.Count(got.Msg, "\n") > 1 {
			saidBehind++
		}
		if t.Failed() {
			return
		}
	}
	wantMet(t, codes, api.OK, api.ErrNmLetter, api.ErrNoFile, api.ErrMissing, api.ErrIO, api.ErrDown, api.ErrReserved, api.ErrLost, api.ErrStale, api.ErrIndex, api.ErrNoELF, api.ErrCut, api.ErrShort, api.ErrData)
	if saidBehind < 500 {
		t.Errorf("chance said several lines only %d times", saidBehind)
	}
}
