package coff_test

import (
	"math/rand"
	"slices"
	"strings"
	"testing"

	"shelf/api"
)

// dice are what chance decides, the same for the same seed.
type dice struct{ *rand.Rand }

func newDice(seed int) dice { return dice{rand.New(rand.NewSource(int64(seed)))} }

// one is one of these.
func one[T any](d dice, list ...T) T { return list[d.Intn(len(list))] }

// often is no once in n times.
func (d dice) often(n int) bool { return d.Intn(n) > 0 }

// wantMet wants that each of these codes was met so often.
func wantMet(t *testing.T, met map[api.Errno]int, times int, codes ...api.Errno) {
	t.Helper()
	for _, e := range codes {
		if met[e] < times {
			t.Errorf("the test met %d %d times", e, met[e])
		}
	}
}

// symbol is a name of few, so that there are equal ones, mostly a good one.
func (d dice) symbol() string {
	if !d.often(60) {
		return one(d, "", "\x00", "f\x00")
	}
	return one(d, "f", "g", "ff", "go", "\x01", "\xff", "f ", "longer.than.others")
}

// places are places in order, mostly.
func (d dice) places() []int {
	var at []int
	for next := one(d, 0, 8, 100); d.often(4); next += one(d, 1, 60, 256, 1<<16) {
		at = append(at, next)
	}
	if len(at) > 0 && !d.often(12) {
		at[d.Intn(len(at))] = one(d, -1, 0, 8, 70, 1<<32-1, 1<<32, 1<<40)
	}
	return at
}

// pairsAt are pairs of these places, mostly.
func (d dice) pairsAt(at []int) []api.Entry {
	var l []api.Entry
	for d.often(5) {
		place := one(d, -1, 0, 7, 9, 1<<32)
		if len(at) > 0 && d.often(60) {
			place = one(d, at...)
		}
		if len(at) > 0 || !d.often(6) {
			l = append(l, pair(d.symbol(), place))
		}
	}
	return l
}

// 23.2, 23.3: any places and pairs, against the chapter's own words.
func TestSecondAgainstModel(t *testing.T) {
	met := map[api.Errno]int{}
	for seed := range 40000 {
		d := newDice(seed)
		at := d.places()
		l := d.pairsAt(at)
		want, e := toldSecond(at, l)
		met[e]++
		if e != api.OK {
			wantNoSecond(t, at, l, e)
		} else {
			wantSecond(t, at, l, want)
			wantParts(t, at, l)
		}
		if t.Failed() {
			t.Fatalf("seed %d", seed)
		}
	}
	wantMet(t, met, 200, api.OK, api.ErrRange, api.ErrFar, api.ErrName, api.ErrIndex)
}

// spoilt is b with a change at some place.
func (d dice) spoilt(b string, longest int, bytes ...byte) string {
	i := d.Intn(len(b) + 1)
	j := min(len(b), i+d.Intn(longest))
	switch d.Intn(7) {
	case 0:
		return b[:i] + b[j:]
	case 1:
		return b[:i] + b[i:j] + b[i:]
	case 2:
		return b[:j]
	case 3:
		return b[:i] + string([]byte{one(d, bytes...)}) + b[i:]
	}
	if i == len(b) {
		return b
	}
	return setByte(b, i, one(d, bytes...))
}

// data are a second linker member's, mostly whole, mostly in order.
func (d dice) data() string {
	at := []int{8, 70, 900, 1 << 20}[:d.Intn(5)]
	var numbers []int
	var names []string
	for len(at) > 0 && d.often(4) {
		numbers, names = append(numbers, 1+d.Intn(len(at))), append(names, one(d, "a", "b", "bb", "c"))
	}
	if d.often(4) {
		slices.Sort(names)
	}
	if d.often(3) {
		slices.Sort(numbers)
	}
	b := second(at, numbers, names...)
	for !d.often(3) {
		b = d.spoilt(b, 9, 0, 0, 1, 2, 'a', 'c', 255)
	}
	return b
}

// 23.4, 23.5, 23.12: any data, against the chapter's own words.
func TestSplitAgainstModel(t *testing.T) {
	met := map[api.Errno]int{}
	for seed := range 60000 {
		data := newDice(seed).data()
		at, l, e := toldSplit(data)
		met[e]++
		if e != api.OK {
			wantNoSplit(t, data, e)
		} else {
			wantSplit(t, data, at, l)
			wantAgain(t, data)
		}
		for _, name := range []string{"a", "b", "bb", "c", "", "\x01", "d"} {
			place, e := toldFind(data, name)
			wantFind(t, data, name, place, e)
		}
		if t.Failed() {
			t.Fatalf("seed %d", seed)
		}
	}
	wantMet(t, met, 3000, api.OK, api.ErrSecond, api.ErrSorted)
}

// member is a member that Build takes, mostly.
func (d dice) member(sound int) api.Member {
	m := api.Member{Meta: api.Meta{Date: d.Intn(9), UID: d.Intn(9), GID: d.Intn(9), Mode: d.Intn(512)}}
	m.Name = one(d, "a", "b.o", "c d", letters(15), letters(16), letters(17), letters(30), "__.SYMDEF", "\n")
	m.Data = one(d, "", "x", "hi", "odd", "`\n", defines("f"), defines("g", "f"), defines("f", "f"), defines("common", "longer.than.others")+"x")
	m.Size = len(m.Data)
	if !d.often(sound) {
		m.Name = one(d, "", "a/b", "\x00", "/", letters(16)+"/")
	}
	if !d.often(sound) {
		m.Size = one(d, -1, 0, 1, len(m.Data)+1)
	}
	if !d.often(sound) {
		m.Meta = one(d, api.Meta{Date: -1}, api.Meta{UID: 1000000}, api.Meta{GID: -5}, api.Meta{Mode: 1 << 24})
	}
	return m
}

func (d dice) members(sound int) []api.Member {
	var l []api.Member
	for d.often(5) {
		l = append(l, d.member(sound))
	}
	return l
}

// 23.1, 23.6, 23.10, 23.11: any members, against the chapter's own words.
func TestBuildAgainstModel(t *testing.T) {
	met := map[api.Errno]int{}
	for seed := range 8000 {
		d := newDice(seed)
		l := d.members(30)
		stamp := one(d, 0, 1, 5, 999999999999, d.Intn(1000000), -1, 1000000000000)
		want, e := toldBuild(l, stamp)
		met[e]++
		if e != api.OK {
			wantNoBuild(t, l, stamp, e)
			continue
		}
		wantBuild(t, l, stamp, want)
		wantBack(t, objectsOf(l), stamp)
		for _, name := range []string{"f", "g", "common", "h", ""} {
			wantSameFound(t, want, name)
		}
		if t.Failed() {
			t.Fatalf("seed %d", seed)
		}
	}
	wantMet(t, met, 200, api.OK, api.ErrName, api.ErrSize, api.ErrWide)
}

// part is a part behind the linker members, mostly one that may stand there.
func (d dice) part() string {
	field := one(d, "a/", "b/", "c d/", "/0", "/3", "/17", "__.SYMDEF/")
	if !d.often(15) {
		field = one(d, "/", "//", "/SYM64/", "a", "#1/2", "__.SYMDEF", "", "a/b", "/99", "/1x")
	}
	return dated(field, d.Intn(9), one(d, "", "x", "hi", "abc", "\n", defines("f")))
}

// table is a table of long names, mostly with names where members look for them.
func (d dice) table() string {
	if !d.often(4) {
		return ""
	}
	return whole("//", one(d, letters(16)+"\x00"+letters(20)+"\x00", "abc\x00d\x00efghijklmnopqrst\x00", "a/\n\x00", "abc", "ab\x00/\x00", "\x00"))
}

// linkersFor are two linker members for these parts, mostly such that tell of them alike.
func (d dice) linkersFor(parts []string) string {
	count := 0
	for _, p := range parts {
		if p != "" && !strings.HasPrefix(p, "// ") {
			count++
		}
	}
	pairs := d.pairsFor(count)
	old, at := padded(first(pairs...)), []int{}
	begin := 8 + 60 + len(old) + 60 + (8+4*count+2*len(pairs)+namesLength(pairs)+1)/2*2
	for _, p := range parts {
		if p != "" && !strings.HasPrefix(p, "// ") {
			at = append(at, begin)
		}
		begin += len(p)
	}
	inOrder := putInOrder(pairs)
	if !d.often(12) {
		slices.Reverse(inOrder)
	}
	var numbers []int
	var names []string
	for _, x := range inOrder {
		numbers, names = append(numbers, x.At+1), append(names, x.Name)
	}
	for i := range pairs {
		pairs[i].At = at[pairs[i].At]
	}
	old, new := first(pairs...), second(at, numbers, names...)
	if !d.often(8) {
		old = d.spoilt(old, 3, 0, 1, 'f', 'g')
	}
	if !d.often(8) {
		new = d.spoilt(new, 3, 0, 1, 'f', 'g')
	}
	return dated("/", d.Intn(9), old) + dated("/", d.Intn(9), new)
}

// pairsFor are pairs of so many members, told by their numbers.
func (d dice) pairsFor(count int) []api.Entry {
	var l []api.Entry
	for count > 0 && d.often(4) {
		l = append(l, pair(one(d, "f", "g", "ff", "go"), d.Intn(count)))
	}
	return l
}

// file is an archive, mostly a whole one.
func (d dice) file() string {
	parts := []string{d.table()}
	for d.often(4) {
		parts = append(parts, d.part())
	}
	all := append([]string{one(d, magic, magic, magic, magic, magic, magic, magic, magic, magic, magic, thin, ""), d.linkersFor(parts)}, parts...)
	if !d.often(9) {
		i, j := d.Intn(len(all)), d.Intn(len(all))
		all[i], all[j] = all[j], all[i]
	}
	b := strings.Join(all, "")
	for !d.often(2) {
		b = d.spoilt(b, 90, 'x', ' ', '0', '1', '9', '/', '\n', '`', 0, 255)
	}
	return b
}

// 23.7 to 23.9: any bytes, against the chapter's own words.
func TestReadAgainstModel(t *testing.T) {
	met := map[api.Errno]int{}
	members, pairs := 0, 0
	for seed := range 60000 {
		b := newDice(seed).file()
		p, l, place, e := toldRead(b)
		met[e]++
		if e != api.OK {
			wantNoRead(t, b, place, e)
		} else {
			wantRead(t, b, p, l)
			members += len(p.Members)
			pairs += len(l)
		}
		if t.Failed() {
			t.Fatalf("seed %d", seed)
		}
	}
	wantMet(t, met, 100, api.OK, api.ErrMagic, api.ErrShort, api.ErrTail, api.ErrField, api.ErrName, api.ErrPlace, api.ErrMixed, api.ErrData, api.ErrPad, api.ErrTable, api.ErrIndex, api.ErrSecond, api.ErrSorted, api.ErrTwoTell)
	if members < 10000 || pairs < 5000 {
		t.Errorf("the test met %d members, %d pairs", members, pairs)
	}
}

// 23.7 to 23.9: each file that differs in one byte from an archive, and each that lacks a byte or has one more.
func TestEachByteSpoilt(t *testing.T) {
	for _, b := range []string{
		archive(5, plain("a", "x"), plain(letters(16), "hi")),
		linked(first(pair("f", 164), pair("g", 226))+"\x00", second(ats(164, 226), []int{1, 2}, "f", "g"), whole("a/", "x"), whole("b/", "")),
	} {
		for i := range len(b) {
			for _, spoilt := range []string{b[:i] + b[i+1:], b[:i] + "\x00" + b[i:], b[:i] + "\n" + b[i:]} {
				wantAsTold(t, spoilt)
			}
			for _, c := range []byte{'x', ' ', '0', '9', '/', '\n', '`', 0, 1, 2} {
				wantAsTold(t, setByte(b, i, c))
			}
		}
	}
}

func wantAsTold(t *testing.T, b string) {
	t.Helper()
	p, l, place, e := toldRead(b)
	if e != api.OK {
		wantNoRead(t, b, place, e)
	} else {
		wantRead(t, b, p, l)
	}
}
