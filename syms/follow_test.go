package syms_test

import (
	"slices"
	"strconv"
	"strings"
	"testing"

	"shelf/api"
	"shelf/elf"
	"shelf/syms"
)

// layouts are all orders of the parts, without gaps and with some.
func layouts() []layout {
	var all []layout
	for _, gap := range []string{"", "\x00", "\xff", "\x7fELF", "\x00a\x00bc\x00", strings.Repeat("gap", 50)} {
		for i := range 4 {
			all = append(all, layout{first: i&1 == 0, back: i&2 == 0, gap: gap})
		}
	}
	return all
}

// 6.4: neither the order of the parts nor what the gaps hold matters, nor bytes at the end.
func TestOrderOfPartsAndGaps(t *testing.T) {
	for _, k := range kinds() {
		list, e := syms.Table(k.many(layout{}))
		if e != api.OK || len(list) != 13 {
			t.Fatalf("%s: %v, %d", k, list, e)
		}
		for i, how := range layouts() {
			b := k.many(how)
			for _, more := range []string{"", "\x00", "\xff", b, strings.Repeat("more", 500)} {
				why := k.String() + ", layout " + strconv.Itoa(i)
				wantTable(t, why, b+more, list, api.OK)
				wantGlobals(t, why, b+more, "def", "def", "a", "a", "def", "c")
				wantNeeds(t, why, b+more, "bc", "a", "def", "bc")
			}
		}
	}
}

// 6.4: of all bytes only those of the header, the section table, the symbol tables and their string tables matter.
func TestBytesThatDoNotMatter(t *testing.T) {
	for _, k := range kinds() {
		for _, how := range []layout{{gap: "gap"}, {gap: "gap", first: true}} {
			b := k.many(how) + "behind"
			list, _ := syms.Table(b)
			gaps := 0
			for at := range len(b) {
				if k.isRead(b, at) {
					continue
				}
				gaps++
				for _, other := range []string{"\x00", "\x02", "\xff"} {
					wantTable(t, k.String()+", byte "+strconv.Itoa(at), with(b, at, other), list, api.OK)
				}
			}
			if want := 7*len("gap") + len("code") + len("behind"); gaps != want {
				t.Errorf("%s: %d bytes beside what is read, want %d", k, gaps, want)
			}
		}
	}
}

// isRead: is the byte at this place one of the header, of the section table, of a symbol table or a string table?
func (k kind) isRead(b string, at int) bool {
	h, _ := elf.Header(b)
	list, _ := elf.Sections(b)
	table := at - int(h.Shoff)
	return at < k.headSize() || table >= 0 && table < len(list)*k.sectionSize() || slices.ContainsFunc(list, func(s api.Section) bool {
		return (s.Type == 2 || s.Type == 3) && uint64(at) >= s.Offset && uint64(at)-s.Offset < s.Size
	})
}

// 6.4: where the tables lie over the header, or over one another, they are read all the same.
func TestPartsOverOneAnother(t *testing.T) {
	for _, k := range kinds() {
		over := k.file(layout{change: func(list []api.Section) { list[2].Offset, list[2].Size = 0, uint64(k.headSize()) }}, k.symbols(2, entry{1, api.Symbol{Bind: 1, Section: 1}}), strs(six))
		name := "ELF" + string([]byte{byte(k.class / 32), byte(k.order) + 1, 1})
		wantGlobals(t, k.String()+", names in the header", over, name)
		same := k.file(layout{change: func(list []api.Section) { list[2].Offset, list[2].Size = list[1].Offset, list[1].Size }},
			k.symbols(2, entry{4, api.Symbol{Bind: 1, Section: 1}}, entry{}), strs(""))
		list, e := syms.Table(same)
		if e != api.OK || len(list) != 2 {
			t.Errorf("%s, names in the symbols: %v, %d", k, list, e)
		}
	}
}

// 6.5: the other class and the other byte order, the same symbols and names.
func TestSameInAllKinds(t *testing.T) {
	first := kinds()[0].many(layout{})
	list, e := syms.Table(first)
	if e != api.OK || len(list) != 13 {
		t.Fatalf("%v, %d", list, e)
	}
	globals, needs := syms.Globals(first), syms.Needs(first)
	for _, k := range kinds() {
		wantTable(t, k.String(), k.many(layout{}), list, api.OK)
		wantGlobals(t, k.String(), k.many(layout{}), globals...)
		wantNeeds(t, k.String(), k.many(layout{}), needs...)
	}
}

// 6.6: every shorter beginning of a file whose last byte is needed defines nothing and needs nothing.
func TestShorterBeginnings(t *testing.T) {
	for _, k := range kinds() {
		for i, how := range layouts() {
			if len(how.gap) > 1 {
				continue
			}
			b := k.many(how)
			wantGlobals(t, k.String(), b, "def", "def", "a", "a", "def", "c")
			for n := range len(b) {
				want := api.ErrCut
				if n < 16 {
					want = api.ErrNoELF
				}
				wantRefused(t, k.String()+", layout "+strconv.Itoa(i)+", first "+strconv.Itoa(n), b[:n], want)
			}
		}
	}
}

// 6.6: a table that is refused takes the names of all others with it, of those ahead and of those behind.
func TestNamesOfNoPart(t *testing.T) {
	for _, k := range kinds() {
		for at := range 3 {
			number := []int{1, 4, 6}[at]
			wantRefused(t, k.String()+", EntSize", k.many(layout{change: func(list []api.Section) { list[number].EntSize = 1 }}), api.ErrEntSize)
			wantRefused(t, k.String()+", Link", k.many(layout{change: func(list []api.Section) { list[number].Link = 2 }}), api.ErrLink)
		}
		wantRefused(t, k.String()+", names", k.many(layout{change: func(list []api.Section) { list[5].Size-- }}), api.ErrString)
		wantRefused(t, k.String()+", names", k.many(layout{change: func(list []api.Section) { list[3].Size-- }}), api.ErrString)
	}
}
