package arc_test

import (
	"fmt"
	"slices"
	"strings"
	"testing"

	"shelf/api"
	"shelf/arc"
)

// sample is a part of a sort: its name field, its data, and the name that it has as an ordinary member.
type sample struct {
	sort  int
	field string
	data  string
	name  string
}

// samples are one of each sort; the name of the reference stands in the sample of the table.
func samples() []sample {
	return []sample{
		{api.FieldIndex, "/", "in", ""},
		{api.FieldIndex64, "/SYM64/", "idx", ""},
		{api.FieldTable, "//", "a.o/\nb.o/\n", ""},
		{api.FieldShort, "s.o/", "sss", "s.o"},
		{api.FieldRef, "/5", "rr", "b.o"},
		{api.FieldPlain, "p.o", "ppp", "p.o"},
		{api.FieldLong, "#1/4", "l o\x00lll", "l o"},
		{api.FieldSymdef, "__.SYMDEF", "sym", ""},
	}
}

// isBSD, isIndex and isOrdinary are the chapter's words on sorts.
func isBSD(s int) bool {
	return s == api.FieldPlain || s == api.FieldLong || s == api.FieldSymdef
}

func isIndex(s int) bool {
	return s == api.FieldIndex || s == api.FieldIndex64 || s == api.FieldSymdef
}

func isOrdinary(s int) bool { return !isIndex(s) && s != api.FieldTable }

// bytesOf is how the part stands in an archive with this magic.
func (s sample) bytesOf(magic string) string {
	if magic == thin && isOrdinary(s.sort) {
		return h(s.field, len(s.data))
	}
	return whole(s.field, s.data)
}

// memberOf is what the part is told as.
func (s sample) memberOf(magic string) api.Member {
	switch {
	case magic == thin:
		return away(s.name, len(s.data))
	case s.sort == api.FieldLong:
		return mem(s.name, s.data[4:])
	}
	return mem(s.name, s.data)
}

// refusedAt is why the last of the samples is refused, all ahead of it being right.
func refusedAt(magic string, list []sample) api.Errno {
	first, x, n := list[0].sort, list[len(list)-1].sort, len(list)
	bsd := magic == regular && isBSD(first)
	switch {
	case isBSD(x) != bsd:
		return api.ErrMixed
	case isIndex(x) && n > 1:
		return api.ErrPlace
	case x == api.FieldTable && n > 2, x == api.FieldTable && n == 2 && !isIndex(first):
		return api.ErrPlace
	case x == api.FieldRef && !slices.ContainsFunc(list, func(s sample) bool { return s.sort == api.FieldTable }):
		return api.ErrTable
	}
	return api.OK
}

// wantSamples wants of an archive of these samples what the chapter says of it.
func wantSamples(t *testing.T, magic string, list []sample) {
	t.Helper()
	var p api.Parsed
	if magic == thin {
		p.Kind = api.Thin
	} else if len(list) > 0 && isBSD(list[0].sort) {
		p.Kind = api.BSD
	}
	b := magic
	for _, s := range list {
		b += s.bytesOf(magic)
	}
	at := len(magic)
	for i, s := range list {
		if e := refusedAt(magic, list[:i+1]); e != api.OK {
			wantRefused(t, b, at, e)
			return
		}
		switch {
		case isOrdinary(s.sort):
			p.Members, p.At = append(p.Members, s.memberOf(magic)), append(p.At, at)
		case isIndex(s.sort):
			p.Index, p.Form = s.data, map[string]api.Form{"/": 1, "/SYM64/": 2, "__.SYMDEF": 3}[s.field]
		}
		at += len(s.bytesOf(magic))
	}
	wantParse(t, b, p)
}

// 9.2, 9.3: every sequence of up to four parts of all sorts, in regular and thin archives: each sort as the first, the second and a later part, in each kind.
func TestEverySequence(t *testing.T) {
	lists := [][]sample{nil}
	for range 4 {
		var longer [][]sample
		for _, list := range lists {
			for _, s := range samples() {
				longer = append(longer, append(slices.Clone(list), s))
			}
		}
		lists = longer
		for _, list := range lists {
			wantSamples(t, regular, list)
			wantSamples(t, thin, list)
		}
	}
}

// 9.3: data of every length, of every sort, as they stand; the part behind them begins at an even place.
func TestDataOfEveryLength(t *testing.T) {
	for length := range 130 {
		for _, data := range []string{letters(length), strings.Repeat("\n", length), strings.Repeat("\x00", length), strings.Repeat("\xff", length)} {
			next := 68 + length + length%2
			wantParse(t, regular+whole("a/", data)+whole("b/", "x"), parsed(api.GNU, 0, "", placed{8, mem("a", data)}, placed{next, mem("b", "x")}))
			wantParse(t, regular+whole("a", data)+whole("b", "x"), parsed(api.BSD, 0, "", placed{8, mem("a", data)}, placed{next, mem("b", "x")}))
			wantParse(t, regular+whole("a/", data), parsed(api.GNU, 0, "", placed{8, mem("a", data)}))
			wantParse(t, regular+whole("/", data)+h("a/", 0), parsed(api.GNU, api.Index32, data, placed{next, mem("a", "")}))
			wantParse(t, regular+whole("/SYM64/", data)+h("a/", 0), parsed(api.GNU, api.Index64, data, placed{next, mem("a", "")}))
			wantParse(t, regular+whole("__.SYMDEF", data)+h("a", 0), parsed(api.BSD, api.IndexBSD, data, placed{next, mem("a", "")}))
			wantParse(t, thin+whole("/", data)+h("a/", 5), parsed(api.Thin, api.Index32, data, placed{next, away("a", 5)}))
			wantParse(t, thin+whole("//", data)+h("a/", 5), parsed(api.Thin, 0, "", placed{next, away("a", 5)}))
			name := "x y"
			wantParse(t, regular+whole("#1/3", name+data), parsed(api.BSD, 0, "", placed{8, mem(name, data)}))
		}
	}
}

// 9.3: names ahead of the data, of every length and with bytes 0 behind, are no part of Data and Size.
func TestNamesAheadOfData(t *testing.T) {
	for length := 1; length <= 80; length++ {
		for zeros := range 4 {
			for _, data := range []string{"", "x", "xy", "\x00", "\x00\x00y"} {
				field := fmt.Sprintf("#1/%d", length+zeros)
				text := letters(length) + strings.Repeat("\x00", zeros)
				wantParse(t, regular+whole(field, text+data), parsed(api.BSD, 0, "", placed{8, mem(letters(length), data)}))
				wantRefused(t, regular+whole(field, text[1:]), 8, api.ErrName)
				wantRefused(t, regular+whole(field, "/"+text[1:]+data), 8, api.ErrName)
			}
		}
	}
	wantRefused(t, regular+whole("#1/0", "abc"), 8, api.ErrName)
	wantRefused(t, regular+whole("#1/2", "\x00\x00abc"), 8, api.ErrName)
	wantParse(t, regular+whole("#1/003", "abcd"), parsed(api.BSD, 0, "", placed{8, mem("abc", "d")}))
	wantRefused(t, regular+whole("#1/9999999999999", "abcd"), 8, api.ErrName)
}

// 9.3: every place of a table, in regular and thin archives, with and without an index ahead.
func TestNamesInTheTable(t *testing.T) {
	table := "a.o/\nseventeen.bytes.o/\nx/y/\n\n z /\nend"
	for off := range len(table) + 3 {
		name, rest := "", ""
		if off < len(table) {
			rest = table[off:]
		}
		e := api.ErrTable
		if end := strings.Index(rest, "/\n"); end >= 0 {
			name, e = rest[:end], api.OK
			if name == "" || strings.Contains(name, "/") {
				e = api.ErrName
			}
		}
		for _, ahead := range []string{"", whole("/", "idx"), whole("/SYM64/", "ix")} {
			form := map[string]api.Form{"": 0, whole("/", "idx"): 1, whole("/SYM64/", "ix"): 2}[ahead]
			index := map[string]string{"": "", whole("/", "idx"): "idx", whole("/SYM64/", "ix"): "ix"}[ahead]
			front := ahead + whole("//", table)
			at := 8 + len(front)
			field := fmt.Sprintf("/%d", off)
			if e != api.OK {
				wantRefused(t, regular+front+whole(field, "x"), at, e)
				wantRefused(t, thin+front+h(field, 3), at, e)
				continue
			}
			wantParse(t, regular+front+whole(field, "x"), parsed(api.GNU, form, index, placed{at, mem(name, "x")}))
			wantParse(t, thin+front+h(field, 3), parsed(api.Thin, form, index, placed{at, away(name, 3)}))
		}
	}
	for _, front := range []string{"", h("/", 0), h("//", 0), h("/", 0) + h("//", 0), h("a/", 0)} {
		for _, field := range []string{"/0", "/1", "/999999999999999"} {
			wantRefused(t, regular+front+h(field, 0), 8+len(front), api.ErrTable)
			wantRefused(t, thin+front+h(field, 0), 8+len(front), api.ErrTable)
		}
	}
}

// 9.3: thin members have the header's Size and no data, whatever it is; what follows is the next header.
func TestThinSizes(t *testing.T) {
	for _, size := range []int{0, 1, 2, 3, 59, 60, 61, 77, 1 << 31, 1 << 32, api.MaxSize} {
		wantParse(t, thin+h("a/", size), parsed(api.Thin, 0, "", placed{8, away("a", size)}))
		wantParse(t, thin+h("a/", size)+h("b/", size), parsed(api.Thin, 0, "", placed{8, away("a", size)}, placed{68, away("b", size)}))
		wantRefused(t, thin+h("a/", size)+"\n", 68, api.ErrShort)
	}
	wantRefused(t, thin+h("a/", 60)+strings.Repeat("x", 60), 68, api.ErrTail)
	wantRefused(t, thin+whole("a/", "x"), 68, api.ErrShort)
}

// 9.3: a member's Meta is its header's, and Stamp the index's Date; the index's other numbers and the table's are let go.
func TestMetaAndStamp(t *testing.T) {
	one := api.Meta{Date: 999999999999, UID: 999999, GID: 123456, Mode: 0o77777777}
	two := api.Meta{Date: 1, UID: 2, GID: 3, Mode: 4}
	member := func(m api.Meta, name, data string) api.Member {
		return api.Member{Meta: m, Name: name, Size: len(data), Data: data}
	}
	front := head("/", two, 2) + "in" + head("//", one, 4) + "t.o/"
	p := parsed(api.GNU, api.Index32, "in", placed{134, member(one, "a", "")}, placed{194, member(two, "b", "xy")})
	p.Stamp = 1
	wantParse(t, regular+front+head("a/", one, 0)+head("b/", two, 2)+"xy", p)
	q := parsed(api.BSD, api.IndexBSD, "", placed{68, member(two, "a", "")}, placed{128, member(one, "b c", "z")})
	q.Stamp = one.Date
	wantParse(t, regular+head("__.SYMDEF", one, 0)+head("a", two, 0)+head("#1/3", one, 4)+"b cz", q)
	r := parsed(api.Thin, api.Index64, "", placed{68, api.Member{Meta: one, Name: "a", Size: api.MaxSize}})
	r.Stamp = 77
	wantParse(t, thin+head("/SYM64/", api.Meta{Date: 77, UID: 5, GID: 6, Mode: 7}, 0)+head("a/", one, api.MaxSize), r)
	wantParse(t, regular+head("//", one, 0)+head("a/", two, 0), parsed(api.GNU, 0, "", placed{68, member(two, "a", "")}))
}

// 9.3: equal names and names that look like fields are members like any other.
func TestOddNames(t *testing.T) {
	wantParse(t, regular+h("a/", 0)+h("a/", 0)+h("a/", 0), parsed(api.GNU, 0, "", placed{8, mem("a", "")}, placed{68, mem("a", "")}, placed{128, mem("a", "")}))
	wantParse(t, regular+h("#1/", 0)+h("__.SYMDEF/", 0)+h(" x/", 0), parsed(api.GNU, 0, "", placed{8, mem("#1", "")}, placed{68, mem("__.SYMDEF", "")}, placed{128, mem(" x", "")}))
	wantParse(t, regular+h("a b", 0)+h("SYM64", 0)+h("\xff\n", 0), parsed(api.BSD, 0, "", placed{8, mem("a b", "")}, placed{68, mem("SYM64", "")}, placed{128, mem("\xff\n", "")}))
	wantParse(t, regular+h("exactly.16.bytes", 0), parsed(api.BSD, 0, "", placed{8, mem("exactly.16.bytes", "")}))
	wantParse(t, regular+h("fifteen.bytes.o/", 0), parsed(api.GNU, 0, "", placed{8, mem("fifteen.bytes.o", "")}))
}

// R4: the lists of two answers share nothing, spare room included.
func TestNewMemory(t *testing.T) {
	for _, b := range []string{
		regular + whole("a/", "x") + whole("b/", "y") + whole("c/", "z"),
		regular + whole("a", "x") + whole("#1/2", "bcz") + whole("d", "z"),
		thin + h("a/", 1) + h("b/", 2) + h("c/", 3),
	} {
		first, _, _ := arc.Parse(b)
		second, _, _ := arc.Parse(b)
		want, _, _ := arc.Parse(b)
		for i := range first.Members[:cap(first.Members)] {
			first.Members[:cap(first.Members)][i] = mem("spoilt", "")
		}
		for i := range first.At[:cap(first.At)] {
			first.At[:cap(first.At)][i] = -1
		}
		if !sameParsed(second, want) {
			t.Errorf("a change of one answer of %.60q changed another", b)
		}
		wantParse(t, b, want)
	}
}

// Limits: a long archive is gone through once.
func TestManyMembers(t *testing.T) {
	const n = 50000
	var b strings.Builder
	b.WriteString(regular)
	for range n {
		b.WriteString(whole("a/", "x"))
	}
	p, place, e := arc.Parse(b.String())
	if len(p.Members) != n || len(p.At) != n || p.At[n-1] != 8+62*(n-1) || place != 0 || e != api.OK {
		t.Errorf("%d members: %d, %d, %d, %d", n, len(p.Members), len(p.At), place, e)
	}
	if place, _, e := arcPlace(b.String()[:b.Len()-1]); place != 8+62*(n-1) || e != api.ErrPad {
		t.Errorf("%d members without the last newline: %d at %d", n, e, place)
	}
}
