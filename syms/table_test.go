package syms_test

import (
	"strconv"
	"strings"
	"testing"

	"shelf/api"
	"shelf/syms"
)

// six are names that a file's symbols have at these places: "a" at 1, "bc" at 3, "c" at 4, "def" at 6, and the last byte, at 9, which ends the last.
const six = "\x00a\x00bc\x00def\x00"

// 6.2: all entries of a table in order, the first one and those without a name too.
func TestTable(t *testing.T) {
	for _, k := range kinds() {
		b := k.file(layout{}, k.symbols(2,
			entry{},
			entry{1, api.Symbol{Bind: 1, Type: 2, Other: 3, Section: 4, Value: 5, Size: 6}},
			entry{0, api.Symbol{Bind: 6, Type: 5, Other: 4, Section: 3, Value: 2, Size: 1}},
			entry{3, api.Symbol{Bind: 15, Type: 14, Other: 0xfd, Section: 0xfcfb, Value: 0xfaf9f8f7, Size: 0xf6f5f4f3}},
			entry{},
		), strs(six))
		wantTable(t, k.String(), b, []api.Symbol{
			{},
			{Name: "a", Bind: 1, Type: 2, Other: 3, Section: 4, Value: 5, Size: 6},
			{Name: "", Bind: 6, Type: 5, Other: 4, Section: 3, Value: 2, Size: 1},
			{Name: "bc", Bind: 15, Type: 14, Other: 0xfd, Section: 0xfcfb, Value: 0xfaf9f8f7, Size: 0xf6f5f4f3},
			{},
		}, api.OK)
	}
}

// 6.2: the first entry is one as the others, whatever it says.
func TestFirstEntryIsTold(t *testing.T) {
	for _, k := range kinds() {
		b := k.file(layout{}, k.symbols(2, entry{6, api.Symbol{Bind: 1, Section: 1}}), strs(six))
		wantTable(t, k.String(), b, []api.Symbol{{Name: "def", Bind: 1, Section: 1}}, api.OK)
		wantGlobals(t, k.String(), b, "def")
	}
}

// 6.2: each field by itself, at its bounds.
func TestFieldsOfSymbols(t *testing.T) {
	for _, k := range kinds() {
		var list []api.Symbol
		for i := range 256 {
			list = append(list, api.Symbol{Bind: i / 16, Type: i % 16}, api.Symbol{Other: i})
		}
		for _, v := range []int{0, 1, 0xff, 0x100, 0x0102, 0x7fff, 0x8000, 0xfeff, 0xff00, 0xfff1, 0xfff2, 0xffff} {
			list = append(list, api.Symbol{Section: v})
		}
		numbers := []uint64{1, 0x0102, 0x01020304, 1<<31 - 1, 1 << 31, 1<<32 - 1}
		if k.class == 64 {
			numbers = append(numbers, 1<<32, 0x0102030405060708, 1<<63-1, 1<<63, 1<<64-1)
		}
		for _, v := range numbers {
			list = append(list, api.Symbol{Value: v}, api.Symbol{Size: v})
		}
		var entries []entry
		for _, s := range list {
			entries = append(entries, entry{0, s})
		}
		wantTable(t, k.String(), k.file(layout{}, k.symbols(2, entries...), strs("")), list, api.OK)
	}
}

// 6.2: a file without a symbol table has no symbols; neither has a table of Size 0.
func TestNoSymbols(t *testing.T) {
	for _, k := range kinds() {
		none := api.Section{}
		for why, b := range map[string]string{
			"no section table":        k.header(0, 0),
			"no section table, but 9": k.header(0, 9),
			"section 0 alone":         k.file(layout{}),
			"no symbol table":         k.file(layout{}, strs(six), part{none, "x"}, part{api.Section{Type: 1}, "y"}),
			"Size 0":                  k.file(layout{}, k.symbols(2), strs(six)),
			"Size 0 and no strings":   k.file(layout{}, k.symbols(2), strs("")),
			"Size 0 at the very end":  k.file(layout{first: true, back: true}, k.symbols(2), strs(six)),
		} {
			wantRefused(t, k.String()+", "+why, b, api.OK)
		}
	}
}

// 6.2: only sections of Type 2 are looked at, however broken others are.
func TestOtherTypesOfSections(t *testing.T) {
	for _, k := range kinds() {
		types := []int{2 + 1<<8, 2 + 1<<16, 2 << 24, 0x6ffffff2, 1 << 31, 1<<32 - 1}
		for i := range 40 {
			types = append(types, i)
		}
		for _, number := range types {
			if number == 2 {
				continue
			}
			why := k.String() + ", Type " + strconv.Itoa(number)
			other := k.symbols(2, entry{1, api.Symbol{Bind: 1, Section: 1}})
			other.Type = number
			wantRefused(t, why, k.file(layout{}, other, strs(six)), api.OK)
			broken := part{api.Section{Type: number, Link: 77, EntSize: 3}, "1234"}
			wantRefused(t, why+", broken", k.file(layout{}, broken, strs(six)), api.OK)
		}
	}
}

// 6.2: what a symbol table's Info, Name and Flags say is not asked about, nor what its string table says beside its Type.
func TestFieldsThatAreNotAskedAbout(t *testing.T) {
	for _, k := range kinds() {
		for _, v := range []int{0, 1, 2, 3, 77, 1 << 31, 1<<32 - 1} {
			b := k.file(layout{change: func(list []api.Section) {
				list[1].Info, list[1].Name, list[1].Flags = v, v, uint64(v)
				list[2].Info, list[2].Name, list[2].Flags, list[2].Link, list[2].EntSize = v, v, uint64(v), v, uint64(v)
			}}, k.symbols(2, entry{1, api.Symbol{Bind: 1, Section: 1}}, entry{3, api.Symbol{}}), strs(six))
			wantTable(t, k.String(), b, []api.Symbol{{Name: "a", Bind: 1, Section: 1}, {Name: "bc"}}, api.OK)
		}
	}
}

// 6.2: several tables, in the sections' order, each with the names of its own string table.
func TestSeveralTables(t *testing.T) {
	for _, k := range kinds() {
		for _, how := range []layout{{}, {back: true}, {first: true, back: true}} {
			b := k.file(how,
				k.symbols(4, entry{1, api.Symbol{Value: 1}}, entry{3, api.Symbol{Value: 2}}),
				strs("\x00x\x00yz\x00"),
				k.symbols(2, entry{}, entry{1, api.Symbol{Value: 3}}),
				strs(six),
				k.symbols(4),
				k.symbols(4, entry{6, api.Symbol{Value: 4}}),
				k.symbols(2, entry{3, api.Symbol{Value: 5}}),
			)
			wantTable(t, k.String(), b, []api.Symbol{
				{Name: "a", Value: 1}, {Name: "bc", Value: 2}, {}, {Name: "x", Value: 3}, {Name: "def", Value: 4}, {Name: "yz", Value: 5},
			}, api.OK)
		}
	}
}

// 6.2: tables that lie over one another, or in the same bytes, are read each by itself.
func TestTablesInTheSameBytes(t *testing.T) {
	for _, k := range kinds() {
		list := []entry{{1, api.Symbol{Value: 1}}, {3, api.Symbol{Value: 2}}, {4, api.Symbol{Value: 3}}}
		b := k.file(layout{change: func(list []api.Section) {
			size := uint64(k.symbolSize())
			list[3], list[4] = list[1], list[1]
			list[3].Offset, list[3].Size = list[1].Offset+size, 2*size
			list[4].Size = size
		}}, k.symbols(2, list...), strs(six), part{}, part{})
		wantTable(t, k.String(), b, []api.Symbol{
			{Name: "a", Value: 1}, {Name: "bc", Value: 2}, {Name: "c", Value: 3}, {Name: "bc", Value: 2}, {Name: "c", Value: 3}, {Name: "a", Value: 1},
		}, api.OK)
	}
}

// 6.2: section 0 is a section as the others: a symbol table, or the string table of one.
func TestSectionZero(t *testing.T) {
	for _, k := range kinds() {
		names := k.file(layout{change: func(list []api.Section) { list[0] = list[2] }}, k.symbols(0, entry{3, api.Symbol{}}), strs(six))
		wantTable(t, k.String()+", the names in it", names, []api.Symbol{{Name: "bc"}}, api.OK)
		table := k.file(layout{change: func(list []api.Section) { list[0] = list[1] }}, k.symbols(2, entry{3, api.Symbol{}}), strs(six))
		wantTable(t, k.String()+", a symbol table", table, []api.Symbol{{Name: "bc"}, {Name: "bc"}}, api.OK)
		broken := k.file(layout{change: func(list []api.Section) { list[0] = list[1]; list[0].EntSize = 0 }}, k.symbols(2, entry{3, api.Symbol{}}), strs(six))
		wantRefused(t, k.String()+", a broken symbol table", broken, api.ErrEntSize)
	}
}

// Words: a name is the string at its place, up to the byte 0, and may be any bytes.
func TestNamesOfSymbols(t *testing.T) {
	for _, k := range kinds() {
		long := strings.Repeat("long", 5000)
		table := six + "\xff\xfe \n\x00" + long + "\x00"
		for place, name := range map[uint32]string{1: "a", 2: "", 3: "bc", 4: "c", 5: "", 6: "def", 8: "f", 9: "", 10: "\xff\xfe \n", 15: long, 20014: "g", 20015: ""} {
			b := k.file(layout{}, k.symbols(2, entry{place, api.Symbol{Bind: 1, Section: 1}}), strs(table))
			wantTable(t, k.String(), b, []api.Symbol{{Name: name, Bind: 1, Section: 1}}, api.OK)
		}
	}
}

// Words: at place 0 there is no name, whatever the string table holds.
func TestPlaceZero(t *testing.T) {
	for _, k := range kinds() {
		for _, table := range []string{"", "\x00", "abc\x00", "abc", "\xff"} {
			b := k.file(layout{}, k.symbols(2, entry{0, api.Symbol{Bind: 1, Section: 1}}, entry{0, api.Symbol{Bind: 1}}), strs(table))
			wantTable(t, k.String(), b, []api.Symbol{{Bind: 1, Section: 1}, {Bind: 1}}, api.OK)
			wantGlobals(t, k.String(), b)
			wantNeeds(t, k.String(), b)
		}
	}
}

// 6.2, R4: the list is new memory.
func TestTableIsNewMemory(t *testing.T) {
	for _, k := range kinds() {
		b := k.file(layout{}, k.symbols(2, entry{1, api.Symbol{}}, entry{3, api.Symbol{}}), strs(six), k.symbols(2, entry{6, api.Symbol{}}))
		want := []api.Symbol{{Name: "a"}, {Name: "bc"}, {Name: "def"}}
		one, _ := syms.Table(b)
		two, _ := syms.Table(b)
		for i := range one {
			one[i] = api.Symbol{Name: "spoilt"}
		}
		_ = append(one[:1], one...)
		if two[0] != want[0] || two[1] != want[1] || two[2] != want[2] {
			t.Errorf("%s: a list that was answered ahead changes this one: %v", k, two)
		}
		wantTable(t, k.String(), b, want, api.OK)
	}
}
