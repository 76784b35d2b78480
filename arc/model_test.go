package arc_test

import (
	"fmt"
	"math/rand"
	"regexp"
	"strconv"
	"strings"
	"testing"

	"shelf/api"
	"shelf/arc"
)

var (
	decimal = regexp.MustCompile(`\A([0-9]*) *\z`)
	octal   = regexp.MustCompile(`\A([0-7]*) *\z`)
	ref     = regexp.MustCompile(`\A/([0-9]+)\z`)
	long    = regexp.MustCompile(`\A#1/([0-9]+)\z`)
	slashed = regexp.MustCompile(`(?s)\A([^/\x00]+)/\z`)
	plain   = regexp.MustCompile(`(?s)\A([^/\x00]+)\z`)
)

// modelHead is chapter 7's Parse of the first bytes of rest, by other means.
func modelHead(rest string) (x api.Head, e api.Errno) {
	if len(rest) < 60 {
		return x, api.ErrShort
	}
	if !strings.HasPrefix(rest[58:], "`\n") {
		return x, api.ErrTail
	}
	x.Name = strings.TrimRight(rest[:16], " ")
	for _, c := range []struct {
		to       *int
		from, up int
		like     *regexp.Regexp
		base     int
	}{{&x.Date, 16, 28, decimal, 10}, {&x.UID, 28, 34, decimal, 10}, {&x.GID, 34, 40, decimal, 10}, {&x.Mode, 40, 48, octal, 8}, {&x.Size, 48, 58, decimal, 10}} {
		digits := c.like.FindStringSubmatch(rest[c.from:c.up])
		if digits == nil {
			return api.Head{}, api.ErrField
		}
		n, _ := strconv.ParseInt("0"+digits[1], c.base, 64)
		*c.to = int(n)
	}
	return x, api.OK
}

// modelField is chapter 8's Read, by other means.
func modelField(field string) (f api.Field, e api.Errno) {
	if sort, ok := map[string]int{"/": 1, "/SYM64/": 2, "//": 3, "__.SYMDEF": 8}[field]; ok {
		return api.Field{Sort: sort}, api.OK
	}
	for sort, like := range map[int]*regexp.Regexp{5: ref, 7: long} {
		if got := like.FindStringSubmatch(field); got != nil {
			f.Sort = sort
			f.Num, _ = strconv.Atoi(got[1])
			return f, api.OK
		}
	}
	for sort, like := range map[int]*regexp.Regexp{4: slashed, 6: plain} {
		if got := like.FindStringSubmatch(field); got != nil {
			return api.Field{Sort: sort, Name: got[1]}, api.OK
		}
	}
	return f, api.ErrName
}

// modelState is what the words of 9.2 and 9.3 hang on beside the part itself.
type modelState struct {
	p     api.Parsed
	sorts []int  // of the parts that are behind
	table string // the content of the table
}

// modelPart is 9.2's list of refusals for the part at the beginning of rest; the answer is how long the part is.
func (s *modelState) modelPart(at int, rest string) (int, api.Errno) {
	x, e := modelHead(rest)
	if e != api.OK {
		return 0, e
	}
	f, e := modelField(x.Name)
	if e != api.OK {
		return 0, e
	}
	bsd := strings.Contains("\x06\x07\x08", string(rune(f.Sort)))
	if len(s.sorts) == 0 && s.p.Kind != api.Thin && bsd {
		s.p.Kind = api.BSD
	}
	if bsd && s.p.Kind != api.BSD || !bsd && s.p.Kind == api.BSD {
		return 0, api.ErrMixed
	}
	before := fmt.Sprint(s.sorts)
	switch f.Sort {
	case 1, 2, 8:
		if before != "[]" {
			return 0, api.ErrPlace
		}
	case 3:
		if before != "[]" && before != "[1]" && before != "[2]" {
			return 0, api.ErrPlace
		}
	}
	s.sorts = append(s.sorts, f.Sort)
	rest = rest[60:]
	ordinary := f.Sort >= 4 && f.Sort <= 7
	if ordinary && s.p.Kind == api.Thin {
		return 60, s.modelTell(at, x, f, "")
	}
	if x.Size > len(rest) {
		return 0, api.ErrData
	}
	data := rest[:x.Size]
	if x.Size%2 == 1 && !strings.HasPrefix(rest[x.Size:], "\n") {
		return 0, api.ErrPad
	}
	return 60 + (x.Size+1)/2*2, s.modelTell(at, x, f, data)
}

// modelTell is the last refusal of 9.2, and 9.3.
func (s *modelState) modelTell(at int, x api.Head, f api.Field, data string) api.Errno {
	m := api.Member{Meta: x.Meta, Name: f.Name, Size: x.Size, Data: data}
	switch f.Sort {
	case 3:
		s.table = data
		return api.OK
	case 1, 2, 8:
		s.p.Form, s.p.Index, s.p.Stamp = map[int]api.Form{1: 1, 2: 2, 8: 3}[f.Sort], data, x.Date
		return api.OK
	case 5:
		if f.Num >= len(s.table) || !strings.Contains(s.table[f.Num:], "/\n") {
			return api.ErrTable
		}
		m.Name = strings.SplitN(s.table[f.Num:], "/\n", 2)[0]
	case 7:
		if f.Num > len(data) {
			return api.ErrName
		}
		m.Name = strings.TrimRight(data[:f.Num], "\x00")
		m.Data = data[f.Num:]
		m.Size = len(m.Data)
	}
	if m.Name == "" || strings.ContainsAny(m.Name, "/\x00") {
		return api.ErrName
	}
	s.p.Members, s.p.At = append(s.p.Members, m), append(s.p.At, at)
	return api.OK
}

// modelParse is the chapter's words by other means; with a refusal the members ahead of it.
func modelParse(b string) (api.Parsed, int, api.Errno) {
	var s modelState
	rest, ok := strings.CutPrefix(b, thin)
	if ok {
		s.p.Kind = api.Thin
	} else if rest, ok = strings.CutPrefix(b, regular); !ok {
		return s.p, 0, api.ErrMagic
	}
	for rest != "" {
		at := len(b) - len(rest)
		n, e := s.modelPart(at, rest)
		if e != api.OK {
			return s.p, at, e
		}
		rest = rest[n:]
	}
	return s.p, 0, api.OK
}

// pick is one of the texts, by chance.
func pick(r *rand.Rand, of ...string) string { return of[r.Intn(len(of))] }

// chanceData are up to eleven bytes, some of which look like what they are not.
func chanceData(r *rand.Rand) string {
	var s string
	for range r.Intn(5) {
		s += pick(r, "x", "yz", "\n", "\x00", "/\n", "`\n", "abc")
	}
	return s
}

// chanceHead is a header, mostly a good one.
func chanceHead(r *rand.Rand, field string, size int) string {
	x := head(field, api.Meta{Date: r.Intn(3) * 333333333333, UID: r.Intn(1000000), GID: r.Intn(2), Mode: r.Intn(1 << 24)}, size)
	switch r.Intn(60) {
	case 0:
		return setByte(x, r.Intn(60), pick(r, " ", "/", "0", "7", "8", "x", "\x00")[0])
	case 1:
		return setByte(x, 58+r.Intn(2), pick(r, " ", "`", "\n", "x")[0])
	case 2:
		return x[:16] + strings.Repeat(" ", r.Intn(12)) + pick(r, "1", "-", "") + x[30:]
	}
	return x
}

// chanceOrdinary is a field for an ordinary member with these data; BSD's may put a name ahead of them.
func chanceOrdinary(r *rand.Rand, bsd bool, data string) (string, string) {
	name := pick(r, "a", "a.o", "b c", "\xff", "fifteen.bytes.o", "a/b", "1")
	if !bsd {
		return pick(r, name+"/", name+"/", "/"+strconv.Itoa(r.Intn(14)), "/0", "/5"), data
	}
	switch text := name + strings.Repeat("\x00", r.Intn(3)); r.Intn(3) {
	case 0:
		return "#1/" + strconv.Itoa(len(text)), text + data
	case 1:
		return "#1/" + strconv.Itoa(r.Intn(8)), text + data
	}
	return name, data
}

// chancePart is a part, mostly one that may stand where it does.
func chancePart(r *rand.Rand, magic string, bsd bool, nth int) string {
	data := chanceData(r)
	field, special := "", true
	switch {
	case nth == 0 && r.Intn(3) == 0 || r.Intn(60) == 0:
		field = pick(r, "/", "/SYM64/")
		if bsd {
			field = "__.SYMDEF"
		}
	case !bsd && nth < 2 && r.Intn(3) > 0 || r.Intn(60) == 0:
		field, data = "//", pick(r, "a.o/\nb.o/\n", "a.o/\nx/y/\n", "a.o/\n\n", data)
	default:
		field, data = chanceOrdinary(r, bsd != (r.Intn(30) == 0), data)
		special = false
	}
	size := len(data)
	pad := strings.Repeat("\n", size%2)
	if magic == thin && !special {
		return chanceHead(r, field, r.Intn(100))
	}
	switch r.Intn(30) {
	case 0:
		size += r.Intn(5) - 2
	case 1:
		pad = pick(r, "", "\n", "x", "\n\n")
	}
	return chanceHead(r, field, max(0, size)) + data + pad
}

// chanceArchive is an archive, or nearly one.
func chanceArchive(r *rand.Rand) string {
	magic := pick(r, regular, regular, thin)
	bsd := magic == regular && r.Intn(2) == 0
	b := magic
	if r.Intn(40) == 0 {
		b = setByte(magic, r.Intn(8), pick(r, "t", "\n", "x")[0])
	}
	for nth := range r.Intn(6) {
		b += chancePart(r, magic, bsd, nth)
	}
	if r.Intn(12) == 0 {
		b = b[:len(b)-r.Intn(min(70, len(b)))]
	}
	return b
}

// 9.1 to 9.8: chance archives against the chapter's words.
func TestChanceArchives(t *testing.T) {
	r := rand.New(rand.NewSource(99))
	seen := map[api.Errno]int{}
	kinds := map[string]int{}
	for range 100000 {
		b := chanceArchive(r)
		ahead, place, e := modelParse(b)
		want := ahead
		if e != api.OK {
			want = api.Parsed{}
		}
		got, gotPlace, gotE := arc.Parse(b)
		if !sameParsed(got, want) || gotPlace != place || gotE != e {
			t.Fatalf("Parse(%q): %s, %d, %d, want %s, %d, %d", b, short(got), gotPlace, gotE, short(want), place, e)
		}
		wantEach(t, b, ahead)
		wantFollows(t, b)
		seen[e]++
		if e == api.OK && len(got.Members) > 0 {
			kinds[fmt.Sprint(got.Kind, got.Form)]++
		}
	}
	wantSeen(t, seen, api.OK, api.ErrShort, api.ErrTail, api.ErrField, api.ErrName, api.ErrTable, api.ErrMagic, api.ErrData, api.ErrPad, api.ErrPlace, api.ErrMixed)
	for _, kind := range []string{"0 0", "0 1", "0 2", "1 0", "1 1", "1 2", "2 0", "2 3"} {
		if kinds[kind] < 500 {
			t.Errorf("archives of kind and form %s came up %d times", kind, kinds[kind])
		}
	}
}

// wantSeen wants that chance has led to each of the answers often enough to tell something, and to no other.
func wantSeen(t *testing.T, seen map[api.Errno]int, all ...api.Errno) {
	t.Helper()
	for _, e := range all {
		if seen[e] < 500 {
			t.Errorf("answer %d came up %d times", e, seen[e])
		}
		delete(seen, e)
	}
	if len(seen) > 0 {
		t.Errorf("answers of no promise: %v", seen)
	}
}

// R1: bytes without any order end in an answer.
func TestChanceBytes(t *testing.T) {
	r := rand.New(rand.NewSource(9))
	for range 20000 {
		b := pick(r, regular, thin, "")
		for range r.Intn(40) {
			b += pick(r, "/", "//", " ", "\n", "`\n", "0", "1", "#1/", h("a/", 0), h("a", 1), h("/0", 2), "a", "\x00", "          ")
		}
		wantFollows(t, b)
	}
}
