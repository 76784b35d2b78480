package nm_test

import (
	"fmt"
	"slices"
	"strings"
	"testing"

	"shelf/api"
	"shelf/nm"
)

// sorts are symbols of all sorts, and their rows.
func sorts() ([]api.Symbol, []api.Row) {
	list := []api.Symbol{
		{Name: "f.c", Type: 4, Section: 0xfff1}, {Name: ".text", Type: 3, Section: 1}, {Section: 1, Bind: 1}, {Type: 1, Section: 2, Bind: 2, Value: 1},
		{Name: "z", Section: 1, Type: 2, Value: 9, Size: 4, Other: 2}, {Name: "a", Section: 2, Bind: 1, Type: 1, Value: 8}, {Name: "z", Section: 3, Bind: 1}, {Name: "puts", Bind: 1}, {Name: "maybe", Bind: 2},
		{Name: "room", Bind: 1, Section: 4}, {Name: "note", Section: 5}, {Name: "w", Bind: 2, Section: 1}, {Name: "v", Bind: 2, Type: 1, Section: 1}, {Name: "c", Bind: 1, Type: 5, Section: 0xfff2, Value: 16}, {Name: "abs", Section: 0xfff1}, {Name: "far", Bind: 1, Section: 99},
		{Name: "a b\xff", Section: 0}, {Name: "type 15", Type: 15, Bind: 15, Section: 1},
	}
	var rows []api.Row
	for i, letter := range "tDRUwBnWVCa?UT" {
		rows = append(rows, api.Row{Symbol: list[4+i], Letter: byte(letter)})
	}
	return list, rows
}

// 20.2: the symbols in their order, without those that have no name or are of Type 3 or 4, each with its letter; in each class and byte order.
func TestRows(t *testing.T) {
	list, want := sorts()
	for _, s := range shapes() {
		rows, e := nm.Rows(s.object(sections(), list))
		what := fmt.Sprintf("20.2: Rows of class %d, %v", s.class, s.order)
		wantRows(t, what, rows, want)
		if e != api.OK {
			t.Errorf("%s: %d", what, e)
		}
	}
}

// 20.2: the types one by one, with a name and without.
func TestTypes(t *testing.T) {
	for typ := range 16 {
		s := api.Symbol{Name: "n", Bind: 1, Type: typ, Section: 1}
		rows, e := nm.Rows(object(s, api.Symbol{Bind: 1, Type: typ, Section: 1}))
		want := []api.Row{{Symbol: s, Letter: 'T'}}
		if typ == 3 || typ == 4 {
			want = nil
		}
		wantRows(t, fmt.Sprintf("20.2: Type %d", typ), rows, want)
		if e != api.OK {
			t.Errorf("20.2: Type %d: %d", typ, e)
		}
	}
}

// 20.2: several symbol tables, one behind the other; none; one without symbols.
func TestSeveralTables(t *testing.T) {
	for _, s := range shapes() {
		rows, e := nm.Rows(s.object(sections(), []api.Symbol{global("b"), needed("x")}, nil, []api.Symbol{global("a")}))
		wantRows(t, "20.2: three tables", rows, []api.Row{row("b", 0, 1), row("x", 0, 0), row("a", 0, 1)})
		if e != api.OK {
			t.Errorf("20.2: three tables: %d", e)
		}
		for _, b := range []string{s.object(sections()), s.object(nil, nil), s.header(0, 0)} {
			if rows, e := nm.Rows(b); len(rows) != 0 || e != api.OK {
				t.Errorf("20.2: without symbols: %v, %d", rows, e)
			}
		}
	}
}

func wantNoRows(t *testing.T, what, b string, want api.Errno) {
	t.Helper()
	if rows, e := nm.Rows(b); len(rows) != 0 || e != want {
		t.Errorf("20.2: Rows of %s = %v, %d, want %d", what, rows, e, want)
	}
}

// changed is a file with other bytes at a place.
func changed(b string, at int, bytes string) string { return b[:at] + bytes + b[at+len(bytes):] }

// spoilt are files of class 64 in which the symbol table is not as it must be, by what is wrong; entry tells where the table's entry stands.
func spoilt(b string) map[string]struct {
	b string
	e api.Errno
} {
	entry := len(b) - 2*64
	return map[string]struct {
		b string
		e api.Errno
	}{
		"entries of another size":     {changed(b, entry+56, "\x17"), api.ErrEntSize},
		"no whole number of entries":  {changed(b, entry+32, "\x19"), api.ErrEntSize},
		"a table that is cut":         {changed(b, entry+33, "\x60\xff"), api.ErrCut},
		"no strings":                  {changed(b, entry+40, "\x63"), api.ErrLink},
		"strings of another type":     {changed(b, entry+64+4, "\x01"), api.ErrLink},
		"strings that are cut":        {changed(b, entry+64+33, "\xff"), api.ErrCut},
		"a name that is not there":    {changed(b, 64+24, "\xff"), api.ErrString},
		"a name without an end":       {changed(b, entry+64+32, "\x02"), api.ErrString},
		"a section table that is cut": {b[:len(b)-1], api.ErrCut},
	}
}

// 20.2: the refusals of Sections, and those of Table.
func TestRowsRefused(t *testing.T) {
	b := object(global("main"), needed("puts"))
	wantNoRows(t, "nothing", "", api.ErrNoELF)
	wantNoRows(t, "a text", "hi", api.ErrNoELF)
	wantNoRows(t, "an archive", regular(), api.ErrNoELF)
	wantNoRows(t, "fifteen bytes", b[:15], api.ErrNoELF)
	wantNoRows(t, "another magic", changed(b, 0, "\x7e"), api.ErrNoELF)
	wantNoRows(t, "no class", changed(b, 4, "\x03"), api.ErrClass)
	wantNoRows(t, "no byte order", changed(b, 5, "\x00"), api.ErrByteOrder)
	wantNoRows(t, "no version", changed(b, 6, "\x02"), api.ErrVersion)
	wantNoRows(t, "a cut header", b[:63], api.ErrCut)
	wantNoRows(t, "entries of another size", changed(b, 58, "\x3f"), api.ErrEntSize)
	for what, x := range spoilt(b) {
		wantNoRows(t, what, x.b, x.e)
	}
}

// 20.2: a refusal of Sections goes ahead of one of Table; rows ahead of the fault are not told.
func TestSectionsAheadOfTable(t *testing.T) {
	b := object(global("main"))
	for what, x := range spoilt(b) {
		wantNoRows(t, what+", with no class", changed(x.b, 4, "\x07"), api.ErrClass)
		wantNoRows(t, what+", with sections of another size", changed(x.b, 58, "\x3f"), api.ErrEntSize)
		wantNoRows(t, what+", with too many sections", changed(x.b, 60, "\xff\xff"), api.ErrCut)
		wantNoRows(t, what+", no ELF file", changed(x.b, 1, "F"), api.ErrNoELF)
	}
	s := shapes()[0]
	two := s.object(sections(), []api.Symbol{global("a")}, []api.Symbol{global("b")})
	wantNoRows(t, "two tables, the second spoilt", changed(two, len(two)-64-8, "\x17"), api.ErrEntSize)
}

// 20.2, R4: the list is new memory each time.
func TestRowsNewMemory(t *testing.T) {
	list, want := sorts()
	b := object(list...)
	first, _ := nm.Rows(b)
	second, _ := nm.Rows(b)
	clear(first[:cap(first)])
	wantRows(t, "20.2: another answer", second, want)
	third, _ := nm.Rows(b)
	wantRows(t, "20.2: a later answer", third, want)
}

// R1: whatever byte of a file is another one, or missing, the answer is rows or a refusal.
func TestRowsOfAnything(t *testing.T) {
	for _, s := range shapes() {
		b := s.object(sections(), []api.Symbol{global("main"), needed("puts")})
		for at := range len(b) {
			for _, x := range []string{"\x00", "\x01", "\x7f", "\xff"} {
				wantSome(t, changed(b, at, x))
			}
			wantSome(t, b[:at])
		}
	}
	wantSome(t, strings.Repeat("\x7fELF\x02\x01\x01", 40))
}

// wantSome: rows with a name and a letter each, or a refusal alone.
func wantSome(t *testing.T, b string) {
	t.Helper()
	rows, e := nm.Rows(b)
	if e != api.OK && len(rows) > 0 {
		t.Errorf("20.2: %d with %v", e, rows)
	}
	if slices.ContainsFunc(rows, func(r api.Row) bool {
		return r.Name == "" || !strings.Contains("wUCVWAa?BbTtDdRrNn", string(r.Letter))
	}) {
		t.Errorf("20.2: %v", rows)
	}
}
