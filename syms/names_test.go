package syms_test

import (
	"slices"
	"strconv"
	"testing"

	"shelf/api"
	"shelf/syms"
)

// 6.3, 6.7: which symbols' names are told, by the binding, the section and the name; the type does not matter.
func TestWhichNames(t *testing.T) {
	for _, k := range kinds() {
		for info := range 256 {
			for _, section := range []int{0, 1, 2, 0xff, 0x100, 0xfeff, 0xff00, 0xfff1, 0xfff2, 0xffff} {
				for place, name := range map[uint32]string{0: "", 2: "", 3: "bc", 9: ""} {
					b := k.file(layout{}, k.symbols(2, entry{place, api.Symbol{Bind: info / 16, Type: info % 16, Section: section}}), strs(six))
					var globals, needs []string
					if bind := info / 16; name != "" && (bind == 1 || bind == 2) && section != 0 {
						globals = []string{name}
					} else if name != "" && bind == 1 {
						needs = []string{name}
					}
					why := k.String() + ", info " + strconv.Itoa(info) + ", Section " + strconv.Itoa(section)
					wantGlobals(t, why, b, globals...)
					wantNeeds(t, why, b, needs...)
				}
			}
		}
	}
}

// 6.3, 6.7: neither Value nor Size nor Other nor the number of the section matters, nor whether there is such a section.
func TestFieldsThatDoNotMatterToNames(t *testing.T) {
	for _, k := range kinds() {
		for _, v := range []uint64{0, 1, 2, 1<<31 + 5, 1<<32 - 1} {
			b := k.file(layout{}, k.symbols(2,
				entry{1, api.Symbol{Bind: 1, Section: int(v%9 + 1), Value: v, Size: v, Other: int(v % 256)}},
				entry{3, api.Symbol{Bind: 1, Value: v, Size: v, Other: int(v % 256)}},
			), strs(six))
			wantGlobals(t, k.String(), b, "a")
			wantNeeds(t, k.String(), b, "bc")
		}
	}
}

// many is a file of three tables and two string tables, with names that are there twice.
func (k kind) many(how layout) string {
	global, weak, need := api.Symbol{Bind: 1, Section: 1}, api.Symbol{Bind: 2, Section: 0xfff2}, api.Symbol{Bind: 1}
	return k.file(how,
		k.symbols(3, entry{6, global}, entry{}, entry{3, need}, entry{6, weak}, entry{1, need}),
		part{api.Section{Type: 1}, "code"},
		strs(six),
		k.symbols(5, entry{1, need}, entry{5, weak}, entry{5, api.Symbol{Section: 1}}),
		strs("\x00def\x00a\x00"),
		k.symbols(3, entry{1, global}, entry{4, api.Symbol{Bind: 2}}, entry{6, global}, entry{3, need}, entry{4, global}),
	)
}

// 6.3, 6.7: in Table's order, a name as often as it is there; what one file defines and needs has nothing to do with one another.
func TestOrderOfNames(t *testing.T) {
	for _, k := range kinds() {
		b := k.many(layout{})
		wantGlobals(t, k.String(), b, "def", "def", "a", "a", "def", "c")
		wantNeeds(t, k.String(), b, "bc", "a", "def", "bc")
	}
}

// 6.3, 6.7: the names are a part of what Table tells.
func TestNamesAreThoseOfTable(t *testing.T) {
	for _, k := range kinds() {
		b := k.many(layout{back: true})
		list, e := syms.Table(b)
		if e != api.OK || len(list) != 13 {
			t.Fatalf("%s: %v, %d", k, list, e)
		}
		var globals, needs []string
		for _, s := range list {
			switch {
			case s.Name != "" && s.Section != 0 && (s.Bind == 1 || s.Bind == 2):
				globals = append(globals, s.Name)
			case s.Name != "" && s.Section == 0 && s.Bind == 1:
				needs = append(needs, s.Name)
			}
		}
		wantGlobals(t, k.String(), b, globals...)
		wantNeeds(t, k.String(), b, needs...)
	}
}

// 6.3, 6.7, R4: the lists are new memory.
func TestNamesAreNewMemory(t *testing.T) {
	for _, k := range kinds() {
		b := k.many(layout{})
		for _, ask := range []func(string) []string{syms.Globals, syms.Needs} {
			one, two := ask(b), ask(b)
			want := slices.Clone(two)
			for i := range one {
				one[i] = "spoilt"
			}
			_ = append(one[:1], one...)
			if three := ask(b); len(want) == 0 || !slices.Equal(two, want) || !slices.Equal(three, want) {
				t.Errorf("%s: a list that was answered ahead changes others: %q, %q, want %q", k, two, three, want)
			}
		}
		globals, needs := syms.Globals(b), syms.Needs(b)
		_ = append(globals, "spoilt")
		_ = append(needs, "spoilt")
		wantGlobals(t, k.String(), b, globals...)
		wantNeeds(t, k.String(), b, needs...)
	}
}
