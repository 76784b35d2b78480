package elf_test

import (
	"math"
	"math/big"
	"strconv"
	"strings"
	"testing"

	"shelf/api"
)

// lieWithin: do n bytes from p on lie within length bytes? Reckoned by numbers that cannot wrap.
func lieWithin(length int, p, n uint64) bool {
	end := new(big.Int).Add(new(big.Int).SetUint64(p), new(big.Int).SetUint64(n))
	return end.Cmp(big.NewInt(int64(length))) <= 0
}

// 5.4: just the bytes that are there, for places and lengths of every size.
func TestContent(t *testing.T) {
	const b = "\x7fEL\x00fgh"
	numbers := []uint64{1 << 31, 1<<32 - 1, 1 << 32, 1<<63 - 1, 1 << 63, 1<<63 + 1, 1<<64 - 7, 1<<64 - 2, 1<<64 - 1}
	for n := range uint64(len(b) + 3) {
		numbers = append(numbers, n)
	}
	for _, text := range []string{b, ""} {
		for _, p := range numbers {
			for _, n := range numbers {
				s := api.Section{Type: 3, Offset: p, Size: n}
				if lieWithin(len(text), p, n) {
					wantContent(t, "within", text, s, text[p:p+n], api.OK)
				} else {
					wantContent(t, "beyond", text, s, "", api.ErrCut)
				}
				s.Type = 8
				wantContent(t, "room", text, s, "", api.OK)
			}
		}
	}
}

// 5.4: of a section only Type, Offset and Size matter, and of types only the one.
func TestWhatContentLooksAt(t *testing.T) {
	for _, typ := range []int{math.MinInt, -8, -1, 0, 1, 2, 3, 7, 9, 11, 0x70000008, 1<<32 - 1, 1<<32 + 8, math.MaxInt} {
		s := api.Section{Type: typ, Offset: 2, Size: 3}
		wantContent(t, "type", "abcdefg", s, "cde", api.OK)
		s = api.Section{Type: typ, Offset: 2, Size: 3, Name: -1, Flags: 1<<64 - 1, Link: math.MinInt, Info: math.MaxInt, EntSize: 1<<64 - 1}
		wantContent(t, "all else", "abcdefg", s, "cde", api.OK)
		s.Size = 6
		wantContent(t, "cut", "abcdefg", s, "", api.ErrCut)
	}
	wantContent(t, "room", "", api.Section{Type: 8, Name: -1, Flags: 1, Link: -1, Info: -1, Offset: 1<<64 - 1, Size: 1<<64 - 1, EntSize: 1}, "", api.OK)
}

// 5.5: every place of every short table.
func TestStr(t *testing.T) {
	tables := []string{""}
	for len(tables[0]) < 6 {
		for _, table := range tables {
			for off := range len(table) {
				s, _, ended := strings.Cut(table[off:], "\x00")
				if ended {
					wantStr(t, table, off, s, api.OK)
				} else {
					wantStr(t, table, off, "", api.ErrString)
				}
			}
			for _, off := range []int{math.MinInt, -1 << 32, -2, -1, len(table), len(table) + 1, 1 << 32, math.MaxInt} {
				wantStr(t, table, off, "", api.ErrString)
			}
		}
		var longer []string
		for _, table := range tables {
			longer = append(longer, table+"\x00", table+"a", table+"\xff")
		}
		tables = longer
	}
}

// named is a file of this class and order with three sections and the bytes of five behind them: 0 by itself, 1 with the name `ab`, 2 the names.
func (k kind) named(shstrndx int, change func(list []api.Section)) string {
	h := k.plain(3)
	h.Shstrndx = shstrndx
	behind := uint64(k.headSize() + 3*k.entrySize())
	list := []api.Section{{Name: 2}, {Name: 1, Type: 1}, {Name: 3, Type: 3, Offset: behind, Size: 5}}
	if change != nil {
		change(list)
	}
	return k.file(h, list, five)
}

// 5.6: names of every section, by Shstrndx or by entry 0.
func TestSectionName(t *testing.T) {
	for _, k := range kinds() {
		byLink := func(list []api.Section) { list[0].Link = 2 }
		for _, b := range []string{k.named(2, nil), k.named(2, byLink), k.named(0xffff, byLink)} {
			wantName(t, k.String(), b, 0, "b", api.OK)
			wantName(t, k.String(), b, 1, "ab", api.OK)
			wantName(t, k.String(), b, 2, "", api.OK)
			for _, i := range []int{math.MinInt, -1 << 32, -1, 3, 4, 0xffff, 1 << 32, math.MaxInt} {
				wantName(t, k.String(), b, i, "", api.ErrSection)
			}
		}
		itself := func(list []api.Section) {
			list[0], list[2] = list[2], list[0]
			list[0].Name = 1
		}
		wantName(t, k.String()+", section 0 has the names", k.named(0, itself), 0, "ab", api.OK)
		wantName(t, k.String()+", section 0 has the names", k.named(0xffff, itself), 0, "ab", api.OK)
	}
}

// 5.6: what goes wrong with the section of names.
func TestSectionOfNames(t *testing.T) {
	for _, k := range kinds() {
		for _, number := range []int{3, 4, 0xff00, 0xfffe} {
			wantName(t, k.String(), k.named(number, nil), 1, "", api.ErrSection)
		}
		for _, link := range []int{3, 0xffff, 1 << 16, 1 << 31, 1<<32 - 1} {
			wantName(t, k.String(), k.named(0xffff, func(list []api.Section) { list[0].Link = link }), 1, "", api.ErrSection)
		}
		for _, typ := range []int{0, 1, 2, 4, 8, 11, 1 << 31, 1<<32 - 1} {
			wantName(t, k.String(), k.named(2, func(list []api.Section) { list[2].Type = typ }), 1, "", api.ErrLink)
		}
		for _, size := range []uint64{6, 1 << 31, k.most(), k.most() - uint64(k.headSize())} {
			wantName(t, k.String(), k.named(2, func(list []api.Section) { list[2].Size = size }), 1, "", api.ErrCut)
		}
		for _, offset := range []uint64{k.most(), k.most() - 4, k.most()/2 + 1} {
			wantName(t, k.String(), k.named(2, func(list []api.Section) { list[2].Offset = offset }), 1, "", api.ErrCut)
		}
		for _, name := range []int{4, 5, 6, 1<<31 - 1, 1 << 31, 1<<32 - 1} {
			wantName(t, k.String(), k.named(2, func(list []api.Section) { list[1].Name = name }), 1, "", api.ErrString)
		}
		wantName(t, k.String()+", no strings", k.named(2, func(list []api.Section) { list[2].Size = 0 }), 2, "", api.ErrString)
		wantName(t, k.String()+", no end", k.named(2, func(list []api.Section) { list[2].Size = 3 }), 1, "", api.ErrString)
	}
}

// 5.6: all refusals apply at first; each one that is mended shows the next.
func TestOrderOfNameRefusals(t *testing.T) {
	for _, k := range kinds() {
		h := k.plain(1)
		h.Shentsize, h.Shstrndx = 1, 7
		list := []api.Section{{Name: 9, Type: 2, Offset: k.most(), Size: 1, Link: 5}}
		i := 1
		want := func(e api.Errno) {
			t.Helper()
			wantName(t, k.String(), k.file(h, list, five), i, "", e)
		}
		want(api.ErrEntSize)
		h.Shentsize = k.entrySize()
		h.Shnum = 9
		want(api.ErrCut)
		h.Shnum = 1
		want(api.ErrSection)
		i = 0
		want(api.ErrSection)
		h.Shstrndx = 0xffff
		want(api.ErrSection)
		list[0].Link = 0
		want(api.ErrLink)
		list[0].Type = 3
		want(api.ErrCut)
		list[0].Offset, list[0].Size = uint64(k.headSize()+k.entrySize()), 5
		want(api.ErrString)
		list[0].Name = 1
		wantName(t, k.String(), k.file(h, list, five), i, "ab", api.OK)
	}
}

// 5.6: in a table with more sections than Shstrndx can number, 65535 still sends to entry 0, and 65534 does not.
func TestNamesOfLargeTables(t *testing.T) {
	for _, k := range kinds() {
		list := make([]api.Section, 1<<16+3)
		behind := uint64(k.headSize() + len(list)*k.entrySize())
		list[0].Size, list[0].Link = uint64(len(list)), 1<<16+1
		list[7].Name = 1
		list[0xfffe] = api.Section{Type: 3, Offset: behind, Size: 4}
		list[0xffff] = api.Section{Type: 3, Offset: behind + 4, Size: 4}
		list[1<<16+1] = api.Section{Type: 3, Offset: behind + 8, Size: 4}
		for shstrndx, name := range map[int]string{0xfffe: "aa", 0xffff: "cc"} {
			h := k.plain(0)
			h.Shstrndx = shstrndx
			b := k.file(h, list, "\x00aa\x00\x00bb\x00\x00cc\x00")
			why := k.String() + ", Shstrndx " + strconv.Itoa(shstrndx)
			wantName(t, why, b, 7, name, api.OK)
			wantName(t, why, b, 1<<16+2, "", api.OK)
			wantName(t, why, b, 1<<16+3, "", api.ErrSection)
		}
	}
}
