package elf_test

import (
	"bytes"
	std "debug/elf"
	"encoding/binary"
	"math/rand"
	"strings"
	"testing"

	"shelf/api"
)

// The model's functions are the chapter's steps one by one, with the library's own structs for what stands where. take reads the struct v from the front of b.
func take(b string, order binary.ByteOrder, v any) bool {
	return binary.Read(strings.NewReader(b), order, v) == nil
}

func modelOrder(b string) binary.ByteOrder {
	if b[5] == 2 {
		return binary.BigEndian
	}
	return binary.LittleEndian
}

func modelHeader(b string) (api.ELF, api.Errno) {
	class, order, e := identOf(b)
	if e != api.OK {
		return api.ELF{}, e
	}
	if class == 32 {
		var h std.Header32
		if !take(b, modelOrder(b), &h) {
			return api.ELF{}, api.ErrCut
		}
		return api.ELF{Class: class, Order: order, Type: int(h.Type), Machine: int(h.Machine), Shoff: uint64(h.Shoff), Shentsize: int(h.Shentsize), Shnum: int(h.Shnum), Shstrndx: int(h.Shstrndx)}, api.OK
	}
	var h std.Header64
	if !take(b, modelOrder(b), &h) {
		return api.ELF{}, api.ErrCut
	}
	return api.ELF{Class: class, Order: order, Type: int(h.Type), Machine: int(h.Machine), Shoff: h.Shoff, Shentsize: int(h.Shentsize), Shnum: int(h.Shnum), Shstrndx: int(h.Shstrndx)}, api.OK
}

// modelEntry reads the entry at a place that may lie anywhere.
func modelEntry(b string, class int, at uint64) (api.Section, bool) {
	if at > uint64(len(b)) {
		return api.Section{}, false
	}
	if class == 32 {
		var s std.Section32
		ok := take(b[at:], modelOrder(b), &s)
		return api.Section{Name: int(s.Name), Type: int(s.Type), Flags: uint64(s.Flags), Link: int(s.Link), Info: int(s.Info), Offset: uint64(s.Off), Size: uint64(s.Size), EntSize: uint64(s.Entsize)}, ok
	}
	var s std.Section64
	ok := take(b[at:], modelOrder(b), &s)
	return api.Section{Name: int(s.Name), Type: int(s.Type), Flags: s.Flags, Link: int(s.Link), Info: int(s.Info), Offset: s.Off, Size: s.Size, EntSize: s.Entsize}, ok
}

func modelSections(b string) ([]api.Section, api.Errno) {
	h, e := modelHeader(b)
	if e != api.OK || h.Shoff == 0 {
		return nil, e
	}
	k := kind{h.Class, h.Order}
	if h.Shentsize != k.entrySize() {
		return nil, api.ErrEntSize
	}
	count := uint64(h.Shnum)
	if count == 0 {
		first, ok := modelEntry(b, h.Class, h.Shoff)
		if !ok {
			return nil, api.ErrCut
		}
		count = first.Size
	}
	var list []api.Section
	for at := h.Shoff; uint64(len(list)) < count; at += uint64(k.entrySize()) {
		s, ok := modelEntry(b, h.Class, at)
		if !ok {
			return nil, api.ErrCut
		}
		list = append(list, s)
	}
	return list, api.OK
}

func modelContent(b string, s api.Section) (string, api.Errno) {
	if s.Type == 8 {
		return "", api.OK
	}
	if !lieWithin(len(b), s.Offset, s.Size) {
		return "", api.ErrCut
	}
	return b[s.Offset:][:s.Size], api.OK
}

func modelName(b string, i int) (string, api.Errno) {
	list, e := modelSections(b)
	if e != api.OK {
		return "", e
	}
	if i < 0 || i >= len(list) {
		return "", api.ErrSection
	}
	h, _ := modelHeader(b)
	number := h.Shstrndx
	if number == 0xffff {
		number = list[0].Link
	}
	if number >= len(list) {
		return "", api.ErrSection
	}
	if list[number].Type != 3 {
		return "", api.ErrLink
	}
	strs, e := modelContent(b, list[number])
	if e != api.OK {
		return "", e
	}
	if list[i].Name >= len(strs) {
		return "", api.ErrString
	}
	s, _, ended := strings.Cut(strs[list[i].Name:], "\x00")
	if !ended {
		return "", api.ErrString
	}
	return s, api.OK
}

// chance makes files: most of them nearly sound, with numbers at the edges of what they tell of.
type chance struct{ *rand.Rand }

// near is one of the good numbers mostly, else one a little beside it or far out.
func (c chance) near(good ...uint64) uint64 {
	v := good[c.Intn(len(good))]
	switch c.Intn(12) {
	case 0:
		return v + 1
	case 1:
		return v - 1
	case 2:
		return -v
	case 3:
		return c.Uint64()
	}
	return v
}

func (c chance) file() string {
	k := kinds()[c.Intn(4)]
	n := c.Intn(5)
	gap := c.Intn(4) * c.Intn(30)
	table := uint64(k.headSize() + gap)
	behind := table + uint64(n*k.entrySize())
	h := k.plain(int(uint16(c.near(uint64(n), uint64(n), 0))))
	h.Shoff = c.near(table, table, table, 0)
	if c.Intn(20) == 0 {
		h.Shentsize = int(uint16(c.near(40, 64)))
	}
	h.Shstrndx = int(uint16(c.near(uint64(c.Intn(5)), 1, 0xffff)))
	list := make([]api.Section, n)
	for i := range list {
		list[i] = api.Section{
			Name: int(uint32(c.near(uint64(c.Intn(12)), 1))), Type: int(c.near(3, 3, 8) & 15), Flags: c.Uint64(), Link: int(uint32(c.near(0, 1, uint64(c.Intn(5))))),
			Info: int(c.Uint32()), Offset: c.near(behind, behind, 0, behind+12), Size: c.near(12, 12, 0, uint64(c.Intn(14))), EntSize: c.Uint64(),
		}
		if i == 0 {
			list[i].Size = c.near(uint64(n), uint64(n), 1, 12)
		}
	}
	strs := make([]byte, 12)
	for i := range strs {
		strs[i] = "\x00\x00ab\xff"[c.Intn(5)]
	}
	return c.spoil(k.header(h) + strings.Repeat("\x01", gap) + k.entries(list) + string(strs))
}

// spoil cuts the file, adds to it or changes a byte, mostly nothing of it.
func (c chance) spoil(b string) string {
	switch c.Intn(10) {
	case 0:
		return b[:c.Intn(len(b)+1)]
	case 1:
		return b + string(bytes.Repeat([]byte{byte(c.Intn(256))}, c.Intn(100)))
	case 2:
		return with(b, c.Intn(len(b)), string([]byte{byte(c.Intn(256))}))
	case 3:
		return with(b, c.Intn(64)%len(b), string([]byte{byte(c.Intn(4))}))
	}
	return b
}

// 5.1 to 5.6: chance files against the chapter's words; each refusal and each kind of answer must have come up.
func TestChanceFiles(t *testing.T) {
	c := chance{rand.New(rand.NewSource(5))}
	seen := map[api.Errno]int{}
	for range 20000 {
		b := c.file()
		class, order, e := identOf(b)
		wantIdent(t, "chance", b, class, order, e)
		h, e := modelHeader(b)
		wantHeader(t, "chance", b, h, e)
		list, e := modelSections(b)
		wantSections(t, "chance", b, list, e)
		seen[e]++
		for _, s := range list {
			bytes, e := modelContent(b, s)
			wantContent(t, "chance", b, s, bytes, e)
		}
		for i := -1; i <= len(list) && i < 6; i++ {
			name, e := modelName(b, i)
			wantName(t, "chance", b, i, name, e)
			seen[e]++
		}
		if t.Failed() {
			t.Fatalf("of the file %q", b)
		}
	}
	for _, e := range []api.Errno{api.OK, api.ErrNoELF, api.ErrClass, api.ErrByteOrder, api.ErrVersion, api.ErrCut, api.ErrEntSize, api.ErrString, api.ErrSection, api.ErrLink} {
		if seen[e] < 20 {
			t.Errorf("refusal %d came up %d times", e, seen[e])
		}
	}
}

// R1: bytes without any sense, and every beginning of them.
func TestChanceBytes(t *testing.T) {
	c := chance{rand.New(rand.NewSource(55))}
	for range 300 {
		raw := make([]byte, c.Intn(200))
		c.Read(raw)
		id := kinds()[c.Intn(4)].ident()
		copy(raw, id[:])
		for n := range len(raw) + 1 {
			b := string(raw[:n])
			h, e := modelHeader(b)
			wantHeader(t, "chance", b, h, e)
			list, e := modelSections(b)
			wantSections(t, "chance", b, list, e)
			name, e := modelName(b, 0)
			wantName(t, "chance", b, 0, name, e)
		}
	}
}
