package syms_test

import (
	"strconv"
	"strings"
	"testing"

	"shelf/api"
	"shelf/elf"
)

// sound is a file with one symbol table of four entries in section 1 and its strings in section 2.
func (k kind) sound(change func(list []api.Section)) string {
	return k.file(layout{change: change}, k.symbols(2,
		entry{},
		entry{1, api.Symbol{Bind: 1, Type: 2, Section: 1, Value: 7}},
		entry{3, api.Symbol{Bind: 1}},
		entry{6, api.Symbol{Bind: 2, Section: 0xfff1}},
	), strs(six))
}

// 6.1: the refusals of Sections, ahead of all that is wrong with a symbol table.
func TestRefusalsOfSections(t *testing.T) {
	for _, k := range kinds() {
		for why, b := range map[string]string{"sound": k.sound(nil), "broken": k.sound(func(list []api.Section) { list[1].EntSize, list[1].Link = 1, 9 })} {
			entSize := with(b, k.pick(46, 58), "\x00\x00")
			for refused, want := range map[string]api.Errno{
				"":                      api.ErrNoELF,
				b[:15]:                  api.ErrNoELF,
				with(b, 3, "G"):         api.ErrNoELF,
				with(b, 4, "\x03"):      api.ErrClass,
				with(b, 5, "\x00"):      api.ErrByteOrder,
				with(b, 6, "\x02"):      api.ErrVersion,
				b[:16]:                  api.ErrCut,
				b[:k.headSize()-1]:      api.ErrCut,
				entSize:                 api.ErrEntSize,
				entSize[:len(b)-1]:      api.ErrEntSize,
				b[:len(b)-1]:            api.ErrCut,
				"!<arch>\n":             api.ErrNoELF,
				strings.Repeat(" ", 99): api.ErrNoELF,
			} {
				if _, e := elf.Sections(refused); e != want {
					t.Fatalf("%s, %s: Sections refuses with %d, not with %d", k, why, e, want)
				}
				wantRefused(t, k.String()+", "+why, refused, want)
			}
		}
	}
}

// 6.1, 1: the size of the class's entries, and no other.
func TestEntSize(t *testing.T) {
	for _, k := range kinds() {
		good := k.symbolSize()
		sizes := []uint64{1 << 8, 1 << 16, 1 << 31, 1<<32 - 1, uint64(good) << 8, uint64(good) + 1<<16}
		if k.class == 64 {
			sizes = append(sizes, 1<<32+24, 1<<63+24, 1<<64-24)
		}
		for i := range 100 {
			sizes = append(sizes, uint64(i))
		}
		for _, size := range sizes {
			for _, whole := range []uint64{0, 48, 96} {
				b := k.sound(func(list []api.Section) { list[1].EntSize, list[1].Size = size, whole })
				why := k.String() + ", EntSize " + strconv.FormatUint(size, 10)
				if size != uint64(good) {
					wantRefused(t, why, b, api.ErrEntSize)
				} else if list, e := elf.Sections(b); e != api.OK || len(list) != 3 {
					t.Fatalf("%s: %v, %d", why, list, e)
				}
			}
		}
	}
}

// 6.1, 1: a Size that is no multiple.
func TestSizeOfTheTable(t *testing.T) {
	for _, k := range kinds() {
		good := k.symbolSize()
		for size := range 4*good + 30 {
			b := k.sound(func(list []api.Section) { list[1].Size = uint64(size) })
			why := k.String() + ", Size " + strconv.Itoa(size)
			switch {
			case size%good != 0:
				wantRefused(t, why, b, api.ErrEntSize)
			case size <= 4*good:
				wantTable(t, why, b, []api.Symbol{{}, {Name: "a", Bind: 1, Type: 2, Section: 1, Value: 7}, {Name: "bc", Bind: 1}, {Name: "def", Bind: 2, Section: 0xfff1}}[:size/good], api.OK)
			}
		}
	}
}

// far are pairs of a place and a length, a multiple of the entries' size, that reach beyond a file of length bytes; some by so much that their sum would wrap.
func (k kind) far(length int) [][2]uint64 {
	n, size, most := uint64(length), uint64(k.symbolSize()), uint64(1<<32-1)
	if k.class == 64 {
		most = 1<<64 - 1
	}
	whole := most / size * size
	return [][2]uint64{
		{n + 1, 0}, {n, size}, {n - size + 1, size}, {n - 1, size}, {0, (n/size + 1) * size}, {n - 3*size + 1, 3 * size},
		{most, 0}, {most, size}, {most - size + 1, size}, {most - size + 1, 2 * size}, {most - whole + 1, whole},
		{0, whole}, {size, whole}, {n, whole}, {most, whole}, {1 << 31, 1 << 31 / size * size}, {n, 1 << 31 / size * size},
	}
}

// 6.1, 2: the table's bytes do not lie within the file.
func TestTableIsCut(t *testing.T) {
	for _, k := range kinds() {
		length := len(k.sound(nil))
		for _, f := range k.far(length) {
			b := k.sound(func(list []api.Section) { list[1].Offset, list[1].Size = f[0], f[1] })
			wantRefused(t, k.String()+", "+strconv.FormatUint(f[1], 10)+" from "+strconv.FormatUint(f[0], 10)+" on", b, api.ErrCut)
		}
		end := k.sound(func(list []api.Section) { list[1].Offset, list[1].Size = uint64(length), 0 })
		wantTable(t, k.String()+", nothing at the very end", end, nil, api.OK)
	}
}

// 6.1, 3: no section of that number, or none of strings.
func TestLink(t *testing.T) {
	for _, k := range kinds() {
		for _, link := range []int{0, 1, 3, 4, 5, 100, 0xff00, 0xffff, 1<<16 + 2, 1<<31 - 1, 1 << 31, 1<<31 + 2, 1<<32 - 2, 1<<32 - 1} {
			for _, size := range []uint64{0, uint64(k.symbolSize())} {
				b := k.file(layout{change: func(list []api.Section) { list[1].Link, list[1].Size = link, size }}, k.symbols(2, entry{}), strs(six), part{api.Section{Type: 1}, six})
				wantRefused(t, k.String()+", Link "+strconv.Itoa(link), b, api.ErrLink)
			}
		}
		for _, number := range []int{0, 1, 2, 4, 8, 11, 3 + 1<<8, 3 + 1<<16, 3 << 24, 1<<32 - 1} {
			b := k.sound(func(list []api.Section) {
				list[2].Type, list[2].EntSize, list[2].Link = number, uint64(k.symbolSize()), 2
			})
			wantRefused(t, k.String()+", a string table of Type "+strconv.Itoa(number), b, api.ErrLink)
		}
	}
}

// 6.1, 3: the string table may stand in any section, the last one and one ahead too.
func TestLinkToEachSection(t *testing.T) {
	for _, k := range kinds() {
		for link := range 6 {
			b := k.file(layout{change: func(list []api.Section) {
				list[3].Link = link
				for i := range list {
					if i != 3 {
						list[i] = list[5]
					}
				}
			}}, part{}, part{}, k.symbols(0, entry{3, api.Symbol{}}), part{}, strs(six))
			if link == 3 {
				wantRefused(t, k.String()+", itself", b, api.ErrLink)
				continue
			}
			wantTable(t, k.String()+", Link "+strconv.Itoa(link), b, []api.Symbol{{Name: "bc"}}, api.OK)
		}
	}
}

// 6.1, 4: the string table's bytes do not lie within the file.
func TestStringsAreCut(t *testing.T) {
	for _, k := range kinds() {
		length := len(k.sound(nil))
		for _, f := range append(k.far(length), [2]uint64{uint64(length), 1}, [2]uint64{uint64(length) - 10, 11}) {
			b := k.sound(func(list []api.Section) { list[2].Offset, list[2].Size = f[0], f[1] })
			wantRefused(t, k.String(), b, api.ErrCut)
			b = k.sound(func(list []api.Section) { list[1].Size, list[2].Offset, list[2].Size = 0, f[0], f[1] })
			wantRefused(t, k.String()+", no entries", b, api.ErrCut)
		}
		end := k.sound(func(list []api.Section) {
			list[1].Size, list[2].Offset, list[2].Size = uint64(k.symbolSize()), uint64(length), 0
		})
		wantTable(t, k.String()+", no strings, at the very end", end, []api.Symbol{{}}, api.OK)
	}
}

// 6.1, 5: no string at a name's place, in whichever entry, whatever the entry says else.
func TestNoString(t *testing.T) {
	for _, k := range kinds() {
		for _, place := range []uint32{10, 11, 12, 13, 100, 0xffff, 1 << 16, 1<<31 - 1, 1 << 31, 1<<32 - 1} {
			for at := range 3 {
				for _, s := range []api.Symbol{{}, {Bind: 1, Section: 1}, {Bind: 3, Type: 4}} {
					list := []entry{{}, {1, api.Symbol{Bind: 1, Section: 1}}, {3, api.Symbol{Bind: 1}}}
					list[at] = entry{place, s}
					b := k.file(layout{}, k.symbols(2, list...), strs(six+"no"))
					wantRefused(t, k.String()+", place "+strconv.Itoa(int(place)), b, api.ErrString)
				}
			}
		}
		wantRefused(t, k.String()+", no strings", k.file(layout{}, k.symbols(2, entry{1, api.Symbol{}}), strs("")), api.ErrString)
		wantRefused(t, k.String()+", the byte 0 stands behind the table", k.file(layout{gap: "\x00"}, k.symbols(2, entry{1, api.Symbol{}}), strs("\x00a")), api.ErrString)
	}
}

// 6.1: of whatever is wrong with a table, the first in the chapter's order is answered.
func TestOrderOfRefusals(t *testing.T) {
	wrongs := []struct {
		e    api.Errno
		make func(list []api.Section)
	}{
		{api.ErrEntSize, func(list []api.Section) { list[1].EntSize++ }},
		{api.ErrEntSize, func(list []api.Section) { list[1].Size++ }},
		{api.ErrCut, func(list []api.Section) { list[1].Offset += 1 << 20 }},
		{api.ErrLink, func(list []api.Section) { list[1].Link = 3 }},
		{api.ErrLink, func(list []api.Section) { list[2].Type = 1 }},
		{api.ErrCut, func(list []api.Section) { list[2].Offset += 1 << 20 }},
		{api.ErrString, func(list []api.Section) { list[2].Size = 3 }},
	}
	for _, k := range kinds() {
		for set := range 1 << len(wrongs) {
			want := api.OK
			b := k.sound(func(list []api.Section) {
				for i, w := range wrongs {
					if set>>i&1 == 0 {
						continue
					}
					if w.make(list); want == api.OK {
						want = w.e
					}
				}
			})
			if want == api.OK {
				wantGlobals(t, k.String(), b, "a", "def")
				continue
			}
			wantRefused(t, k.String()+", wrongs "+strconv.FormatInt(int64(set), 2), b, want)
		}
	}
}

// 6.1: the first table that is refused is answered, and then there are no symbols at all, whichever it is.
func TestOneOfSeveralTablesIsRefused(t *testing.T) {
	wrongs := []struct {
		e    api.Errno
		make func(s *api.Section)
	}{
		{api.ErrEntSize, func(s *api.Section) { s.EntSize = 0 }},
		{api.ErrCut, func(s *api.Section) { s.Offset = 1 << 20 }},
		{api.ErrLink, func(s *api.Section) { s.Link = 0 }},
		{api.ErrString, func(s *api.Section) { s.Link = 5 }},
	}
	for _, k := range kinds() {
		three := func(change func(list []api.Section)) string {
			table := k.symbols(4, entry{1, api.Symbol{Bind: 1, Section: 1}}, entry{3, api.Symbol{Bind: 1}})
			return k.file(layout{change: change}, table, table, table, strs(six), strs("\x00\x00"))
		}
		wantGlobals(t, k.String(), three(nil), "a", "a", "a")
		wantNeeds(t, k.String(), three(nil), "bc", "bc", "bc")
		for at := 1; at <= 3; at++ {
			for _, w := range wrongs {
				b := three(func(list []api.Section) { w.make(&list[at]) })
				wantRefused(t, k.String()+", table "+strconv.Itoa(at), b, w.e)
				for later := at + 1; later <= 3; later++ {
					for _, w2 := range wrongs {
						b := three(func(list []api.Section) { w2.make(&list[later]); w.make(&list[at]) })
						wantRefused(t, k.String()+", tables "+strconv.Itoa(at)+" and "+strconv.Itoa(later), b, w.e)
					}
				}
			}
		}
	}
}
