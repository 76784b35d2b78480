package salvage_test

import (
	"math/rand"
	"strings"
	"testing"

	"shelf/api"
)

// dice are what chance decides, the same for the same seed.
type dice struct{ *rand.Rand }

func newDice(seed int) dice { return dice{rand.New(rand.NewSource(int64(seed)))} }

// one is one of these.
func one[T any](d dice, list ...T) T { return list[d.Intn(len(list))] }

// often is no once in n times.
func (d dice) often(n int) bool { return d.Intn(n) > 0 }

// field is a name field, mostly of the kind that is wanted.
func (d dice) field(kind api.Kind) string {
	if !d.often(12) {
		kind = one(d, api.GNU, api.BSD)
	}
	if !d.often(10) {
		return one(d, "/", "/SYM64/", "//", "__.SYMDEF", "", "/x", "a/b", "/99", "#1/99", "#1/0", "`\n/", "a\x00")
	}
	if kind == api.BSD {
		return one(d, "a", "b", "c d", "#1/3", "#1/4", "#1/1", "a`\nb")
	}
	return one(d, "a/", "b/", "c d/", "/0", "/5", "/1", "`\n/")
}

// junk is what is no part, mostly.
func (d dice) junk() string {
	return one(d, "", "x", "\n", tail, "xy", xs, xs[:59], tail+tail, h("a/", 0)[:30], h("a", 0)[30:], regular, thin, strings.Repeat(" ", 58)+tail)
}

// data are a part's.
func (d dice) data() string {
	return one(d, "", "x", "hi", "abc", "a/\nbb/\n", "d/\n", "a b\x00", h("a/", 0), h("b", 0), object("f"), object("f", "g"), "\n")
}

// part is a part, mostly whole.
func (d dice) part(kind api.Kind, thinly bool) string {
	field, data := d.field(kind), d.data()
	b := head(field, api.Meta{Date: d.Intn(9), UID: d.Intn(9), GID: d.Intn(9), Mode: d.Intn(512)}, len(data))
	special := field == "/" || field == "//" || field == "/SYM64/"
	if !thinly || special || !d.often(9) {
		b += data + strings.Repeat("\n", len(data)%2)
	}
	return b
}

// start is what may stand ahead of the members.
func (d dice) start(kind api.Kind) string {
	if kind == api.BSD {
		return one(d, "", "", whole("__.SYMDEF", "i"), whole("__.SYMDEF", ""))
	}
	b := one(d, "", "", whole("/", ""), whole("/", "abc"), whole("/SYM64/", "ab"))
	return b + one(d, "", whole("//", "a/\n"), whole("//", "long.name/\nb/\n"), whole("//", "aaaaa/\nbb/\n"))
}

// archive is a text like an archive's, mostly with whole parts.
func (d dice) archive() string {
	kind := one(d, api.GNU, api.GNU, api.BSD)
	magic := one(d, regular, regular, regular, thin, thin, "", "!<arch>", "x")
	if magic == thin {
		kind = api.GNU
	}
	b := magic
	if d.often(3) {
		b += d.start(kind)
	}
	for range d.Intn(6) {
		b += d.part(kind, magic == thin)
		if !d.often(6) {
			b += d.junk()
		}
	}
	return b
}

// file is an archive that may be spoilt.
func (d dice) file() string {
	b := d.archive()
	for range d.Intn(4) {
		b = d.spoilt(b)
	}
	return b
}

// spoilt is b with a change at some place.
func (d dice) spoilt(b string) string {
	i := d.Intn(len(b) + 1)
	j := min(len(b), i+d.Intn(70))
	switch d.Intn(5) {
	case 0:
		return b[:i] + b[j:]
	case 1:
		return b[:i] + d.junk() + b[i:]
	case 2:
		return b[:i] + b[i:j] + b[i:]
	case 3:
		return b[:j]
	}
	if i == len(b) {
		return b
	}
	return setByte(b, i, one[byte](d, 'x', ' ', '0', '1', '9', '/', '\n', '`', 0, 255))
}

// 22.1 to 22.5: any bytes, against the chapter's own words.
func TestReadAgainstModel(t *testing.T) {
	met := map[api.Errno]int{}
	members, whole := 0, 0
	for seed := range 60000 {
		b := newDice(seed).file()
		p, damages := toldRead(b)
		wantRead(t, b, p, damages)
		if t.Failed() {
			t.Fatalf("seed %d", seed)
		}
		members += len(p.Members)
		if len(damages) == 0 {
			whole++
		}
		for _, d := range damages {
			met[d.Code]++
		}
	}
	for _, e := range []api.Errno{api.ErrMagic, api.ErrShort, api.ErrTail, api.ErrField, api.ErrName, api.ErrMixed, api.ErrPlace, api.ErrData, api.ErrPad, api.ErrTable} {
		if met[e] < 200 {
			t.Errorf("the test met %v %d times", e, met[e])
		}
	}
	if members < 60000 || whole < 3000 {
		t.Errorf("the test met %d members, %d files without damage", members, whole)
	}
}

// 22.4: each file that differs in one byte from an archive.
func TestEachByteSpoilt(t *testing.T) {
	for _, b := range []string{
		regular + whole("/", "abc") + whole("//", "long.name/\n") + whole("/0", "x") + whole("b/", "hi"),
		thin + whole("//", "long.name/\n") + h("/0", 1) + h("b/", 2),
		regular + whole("__.SYMDEF", "i") + whole("#1/3", "a bx") + whole("c", "y"),
	} {
		for i := range len(b) {
			for _, c := range []byte{'x', ' ', '0', '9', '/', '\n', '`', 0} {
				spoilt := setByte(b, i, c)
				p, damages := toldRead(spoilt)
				wantRead(t, spoilt, p, damages)
			}
		}
	}
}
