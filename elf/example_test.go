package elf_test

import (
	std "debug/elf"
	"testing"

	"shelf/api"
)

// five are the bytes behind the table of the chapter's file A.
const five = "\x00ab\x00c"

// fileA is the chapter's file A, 0 wherever nothing is said, with other numbers where change says so.
func fileA(change func(h *std.Header64, first *std.Section64)) string {
	k := kind{64, api.Little}
	h := std.Header64{Ident: [16]byte{0x7f, 0x45, 0x4c, 0x46, 2, 1, 1}, Type: 1, Machine: 62, Shoff: 64, Shentsize: 64, Shnum: 2}
	first, second := std.Section64{}, std.Section64{Type: 3, Off: 192, Size: 5}
	if change != nil {
		change(&h, &first)
	}
	return k.bytes(h) + k.bytes(first) + k.bytes(second) + five
}

// The chapter's examples, row by row.
func TestExamples(t *testing.T) {
	a := fileA(nil)
	if len(a) != 197 {
		t.Fatalf("A has %d bytes", len(a))
	}
	one := api.Section{Type: 3, Offset: 192, Size: 5}
	wantIdent(t, "A", a, 64, api.Little, api.OK)
	wantHeader(t, "A", a, api.ELF{Class: 64, Order: api.Little, Type: 1, Machine: 62, Shoff: 64, Shentsize: 64, Shnum: 2, Shstrndx: 0}, api.OK)
	wantSections(t, "A", a, []api.Section{{}, one}, api.OK)
	wantContent(t, "A", a, one, five, api.OK)
	wantContent(t, "A", a, api.Section{Type: 3, Offset: 192, Size: 6}, "", api.ErrCut)
	wantContent(t, "A", a, api.Section{Type: 3, Offset: 197, Size: 0}, "", api.OK)
	wantContent(t, "A", a, api.Section{Type: 3, Offset: 198, Size: 0}, "", api.ErrCut)
	wantStr(t, five, 1, "ab", api.OK)
	wantStr(t, five, 2, "b", api.OK)
	wantStr(t, five, 3, "", api.OK)
	wantStr(t, five, 4, "", api.ErrString)
	wantStr(t, five, 5, "", api.ErrString)
	wantStr(t, five, -1, "", api.ErrString)
	wantName(t, "A", a, 1, "", api.ErrLink)
	wantName(t, "A", a, 2, "", api.ErrSection)
	wantSections(t, "191 bytes", a[:191], nil, api.ErrCut)
	wantHeader(t, "63 bytes", a[:63], api.ELF{}, api.ErrCut)
	wantHeader(t, "15 bytes", a[:15], api.ELF{}, api.ErrNoELF)
}

// The rows in which A has other numbers.
func TestExamplesOfOtherNumbers(t *testing.T) {
	one := api.Section{Type: 3, Offset: 192, Size: 5}
	b := fileA(func(h *std.Header64, first *std.Section64) { h.Shnum, first.Size = 0, 2 })
	wantSections(t, "Shnum 0, Size 2", b, []api.Section{{Size: 2}, one}, api.OK)
	b = fileA(func(h *std.Header64, _ *std.Section64) { h.Shnum = 0 })
	wantSections(t, "Shnum 0", b, nil, api.OK)
	b = fileA(func(h *std.Header64, first *std.Section64) { h.Shstrndx, first.Link = 65535, 1 })
	wantName(t, "Shstrndx 65535, Link 1", b, 1, "", api.OK)
	b = fileA(func(h *std.Header64, _ *std.Section64) { h.Shstrndx = 2 })
	wantName(t, "Shstrndx 2", b, 1, "", api.ErrSection)
	b = fileA(func(h *std.Header64, _ *std.Section64) { h.Shoff = 1<<64 - 64 })
	wantSections(t, "Shoff 2^64 - 64", b, nil, api.ErrCut)
	b = fileA(func(h *std.Header64, _ *std.Section64) { h.Shoff, h.Shentsize = 0, 1 })
	wantSections(t, "Shoff 0, Shentsize 1", b, nil, api.OK)
	b = fileA(func(h *std.Header64, _ *std.Section64) { h.Shentsize = 40 })
	wantSections(t, "Shentsize 40", b, nil, api.ErrEntSize)
}
