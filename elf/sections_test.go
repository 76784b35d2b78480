package elf_test

import (
	"slices"
	"strconv"
	"strings"
	"testing"

	"shelf/api"
	"shelf/elf"
)

// 5.3: every entry in order, each field as it stands.
func TestSections(t *testing.T) {
	for _, k := range kinds() {
		for _, n := range []int{1, 2, 3, 9} {
			list := k.distinct(n)
			wantSections(t, k.String(), k.file(k.plain(n), list, ""), list, api.OK)
			wantSections(t, k.String()+" and more", k.file(k.plain(n), list, "more"), list, api.OK)
		}
	}
}

// 5.3: each field by itself, at its bounds.
func TestFieldsOfSections(t *testing.T) {
	for _, k := range kinds() {
		for _, v := range []uint64{1, 0x0102, 0x01020304, 1<<31 - 1, 1 << 31, 1<<32 - 1} {
			list := []api.Section{{Name: int(v)}, {Type: int(v)}, {Flags: v}, {Link: int(v)}, {Info: int(v)}, {Offset: v}, {Size: v}, {EntSize: v}}
			wantSections(t, k.String(), k.file(k.plain(len(list)), list, ""), list, api.OK)
		}
		if k.class == 64 {
			for _, v := range []uint64{0x0102030405060708, 1 << 32, 1<<63 - 1, 1 << 63, 1<<64 - 1} {
				list := []api.Section{{Flags: v}, {Offset: v}, {Size: v}, {EntSize: v}}
				wantSections(t, k.String(), k.file(k.plain(len(list)), list, ""), list, api.OK)
			}
		}
	}
}

// 5.3: the table may stand anywhere, even over the header.
func TestPlacesOfTheTable(t *testing.T) {
	for _, k := range kinds() {
		list := k.distinct(2)
		for gap := range 20 {
			h := k.plain(2)
			h.Shoff += uint64(gap)
			b := k.header(h) + strings.Repeat("\xee", gap) + k.entries(list)
			wantSections(t, k.String()+", gap "+strconv.Itoa(gap), b, list, api.OK)
			wantSections(t, k.String()+", gap "+strconv.Itoa(gap)+", cut", b[:len(b)-1], nil, api.ErrCut)
		}
		over := k.plain(1)
		over.Shoff = 1
		b := k.header(over) + "\xee"
		list, e := elf.Sections(b)
		if e != api.OK || len(list) != 1 {
			t.Errorf("%s: a table from 1 on: %v, %d", k, list, e)
		}
		apart := k.header(k.plain(1)) + b[1:1+k.entrySize()]
		wantSections(t, k.String()+", the same entry behind the header", apart, list, api.OK)
	}
}

// 5.3, 2: without a place there is no table, whatever else the header says, but the header must be whole.
func TestNoTable(t *testing.T) {
	for _, k := range kinds() {
		for _, h := range []api.ELF{{}, {Shentsize: 1, Shnum: 0xffff, Shstrndx: 0xffff}, {Shentsize: k.entrySize(), Shnum: 1}, {Shentsize: k.entrySize()}} {
			b := k.header(h)
			wantSections(t, k.String(), b, nil, api.OK)
			wantSections(t, k.String()+" and more", b+strings.Repeat("\x01", 200), nil, api.OK)
			wantSections(t, k.String()+", cut", b[:len(b)-1], nil, api.ErrCut)
			wantName(t, k.String(), b, 0, "", api.ErrSection)
		}
	}
}

// 5.3, 3: entries of any other size are refused, ahead of what is cut.
func TestSizeOfEntries(t *testing.T) {
	for _, k := range kinds() {
		h := k.plain(1)
		list := []api.Section{{Name: 7}}
		for size := range 1 << 16 {
			h.Shentsize = size
			b := k.file(h, list, strings.Repeat("\xee", 24))
			if size == k.entrySize() {
				wantSections(t, k.String(), b, list, api.OK)
				continue
			}
			wantSections(t, k.String()+", Shentsize "+strconv.Itoa(size), b, nil, api.ErrEntSize)
		}
		for _, far := range []api.ELF{{Shoff: k.most(), Shentsize: 41, Shnum: 1}, {Shoff: k.most(), Shentsize: 0}, {Shoff: 1, Shentsize: 65, Shnum: 0xffff}} {
			wantSections(t, k.String(), k.header(far), nil, api.ErrEntSize)
			wantName(t, k.String(), k.header(far), 0, "", api.ErrEntSize)
		}
	}
}

// 5.3, 4: if the header has no count, entry 0 has it; else its Size says nothing.
func TestCountInEntryZero(t *testing.T) {
	for _, k := range kinds() {
		for n := range 4 {
			list := k.distinct(3)
			list[0].Size = uint64(n)
			why := k.String() + ", " + strconv.Itoa(n) + " in entry 0"
			wantSections(t, why, k.file(k.plain(0), list, ""), list[:n], api.OK)
			wantSections(t, why+", 2 in the header", k.file(k.plain(2), list, ""), list[:2], api.OK)
		}
		for _, n := range []uint64{4, 5, 0xffff, 1 << 16, 1<<31 - 1, 1 << 31, 1<<32 - 1} {
			list := k.distinct(3)
			list[0].Size = n
			wantSections(t, k.String()+", "+strconv.FormatUint(n, 10)+" in entry 0", k.file(k.plain(0), list, "more"), nil, api.ErrCut)
		}
	}
}

// 5.3, 4: entry 0 must be there whole even if it says that there are none.
func TestEntryZeroThatIsCut(t *testing.T) {
	for _, k := range kinds() {
		b := k.file(k.plain(0), []api.Section{{Name: 7}}, "")
		wantSections(t, k.String(), b, nil, api.OK)
		wantName(t, k.String(), b, 0, "", api.ErrSection)
		for n := k.headSize(); n < len(b); n++ {
			why := k.String() + ", first " + strconv.Itoa(n)
			wantSections(t, why, b[:n], nil, api.ErrCut)
			wantName(t, why, b[:n], 0, "", api.ErrCut)
		}
	}
}

// 5.3, 4 and 5: places and counts of which a sum or a product would wrap and seem to lie within the file.
func TestNothingWraps(t *testing.T) {
	for _, k := range kinds() {
		size := uint64(k.entrySize())
		for _, count := range []int{0, 1, 2, 3, 4, 0xffff} {
			for _, back := range []uint64{0, 1, size - 1, size, size + 1, 2*size - 1, 2 * size, 3 * size, uint64(k.headSize()), k.most() / 2} {
				h := k.plain(count)
				h.Shoff = k.most() - back
				wantSections(t, k.String()+", Shoff "+strconv.FormatUint(h.Shoff, 10)+", "+strconv.Itoa(count), k.file(h, k.distinct(3), ""), nil, api.ErrCut)
			}
		}
	}
	for _, k := range []kind{{64, api.Little}, {64, api.Big}} {
		for _, count := range []uint64{1 << 57, 1 << 58, 1<<58 + 1, 1<<58 + 2, 1<<59 + 1, 3<<58 + 1, 1 << 62, 1<<63 - 1, 1 << 63, 1<<63 + 1, 1<<64 - 2, 1<<64 - 1} {
			list := k.distinct(2)
			list[0].Size = count
			wantSections(t, k.String()+", count "+strconv.FormatUint(count, 10), k.file(k.plain(0), list, ""), nil, api.ErrCut)
		}
	}
	for _, k := range []kind{{32, api.Little}, {32, api.Big}} {
		for _, count := range []uint64{107374183, 107374184, 1<<32 - 1} { // 40 times these is a little above 2^32
			list := k.distinct(2)
			list[0].Size = count
			wantSections(t, k.String()+", count "+strconv.FormatUint(count, 10), k.file(k.plain(0), list, ""), nil, api.ErrCut)
		}
	}
}

// 5.3, 5: the table's end is the file's end at the most.
func TestEndOfTheTable(t *testing.T) {
	for _, k := range kinds() {
		list := k.distinct(3)
		b := k.file(k.plain(3), list, "")
		for n := k.headSize(); n < len(b); n++ {
			wantSections(t, k.String()+", first "+strconv.Itoa(n), b[:n], nil, api.ErrCut)
		}
		for count := 4; count < 1<<16; count *= 2 {
			wantSections(t, k.String()+", Shnum "+strconv.Itoa(count), k.file(k.plain(count), list, ""), nil, api.ErrCut)
		}
		h := k.plain(1)
		for back := range k.entrySize() {
			h.Shoff = uint64(len(b) - back)
			wantSections(t, k.String()+", Shoff "+strconv.Itoa(back)+" ahead of the end", k.file(h, list, ""), nil, api.ErrCut)
		}
		h.Shoff = uint64(len(b) - k.entrySize())
		wantSections(t, k.String()+", the last entry alone", k.file(h, list, ""), list[2:], api.OK)
	}
}

// 5.3: more entries than the header can count.
func TestLargeTables(t *testing.T) {
	for _, k := range kinds() {
		list := make([]api.Section, 1<<16+2)
		for i := range list {
			list[i].Name = i
		}
		wantSections(t, k.String()+", 65535", k.file(k.plain(0xffff), list, ""), list[:0xffff], api.OK)
		list[0].Size = uint64(len(list))
		wantSections(t, k.String()+", 65538", k.file(k.plain(0), list, ""), list, api.OK)
		wantSections(t, k.String()+", 65537 are there", k.file(k.plain(0), list[:len(list)-1], ""), nil, api.ErrCut)
	}
}

// 5.3, R2: a list belongs to the one who asked.
func TestSectionsAreNewMemory(t *testing.T) {
	k := kind{64, api.Little}
	want := k.distinct(3)
	b := k.file(k.plain(3), want, "")
	first, _ := elf.Sections(b)
	second, _ := elf.Sections(b)
	for i := range first {
		first[i] = api.Section{Name: -1}
	}
	_ = append(first[:0], api.Section{}, api.Section{}, api.Section{})
	if !slices.Equal(second, want) {
		t.Errorf("the second list changed with the first: %v", second)
	}
	wantSections(t, "a third time", b, want, api.OK)
}
