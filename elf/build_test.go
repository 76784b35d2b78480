package elf_test

import (
	"bytes"
	std "debug/elf"
	"encoding/binary"
	"fmt"
	"slices"
	"strconv"
	"testing"

	"shelf/api"
	"shelf/elf"
)

// kind is a class and a byte order: what a file's numbers stand by.
type kind struct {
	class int
	order api.Order
}

func kinds() []kind {
	return []kind{{32, api.Little}, {32, api.Big}, {64, api.Little}, {64, api.Big}}
}

func (k kind) String() string {
	return "class " + strconv.Itoa(k.class) + ", order " + strconv.Itoa(int(k.order))
}

func (k kind) headSize() int {
	if k.class == 32 {
		return 52
	}
	return 64
}

func (k kind) entrySize() int {
	if k.class == 32 {
		return 40
	}
	return 64
}

// most is the greatest number that a place or a length of this class can be.
func (k kind) most() uint64 {
	if k.class == 32 {
		return 1<<32 - 1
	}
	return 1<<64 - 1
}

func (k kind) byteOrder() binary.ByteOrder {
	if k.order == api.Big {
		return binary.BigEndian
	}
	return binary.LittleEndian
}

// bytes are the numbers of the struct v, one behind another.
func (k kind) bytes(v any) string {
	var b bytes.Buffer
	if err := binary.Write(&b, k.byteOrder(), v); err != nil {
		panic(err)
	}
	return b.String()
}

func (k kind) ident() [16]byte {
	return [16]byte{0x7f, 'E', 'L', 'F', byte(k.class / 32), byte(k.order) + 1, 1, 0xf7, 0xf8, 0xf9, 0xfa, 0xfb, 0xfc, 0xfd, 0xfe, 0xff}
}

// header is a file's header. What the chapter does not name holds numbers that nothing may look at.
func (k kind) header(h api.ELF) string {
	if k.class == 32 {
		return k.bytes(std.Header32{
			Ident: k.ident(), Type: uint16(h.Type), Machine: uint16(h.Machine), Shoff: uint32(h.Shoff),
			Shentsize: uint16(h.Shentsize), Shnum: uint16(h.Shnum), Shstrndx: uint16(h.Shstrndx),
			Version: 0xd1d2d3d4, Entry: 0xe1e2e3e4, Phoff: 0xf1f2f3f4, Flags: 0xc1c2c3c4, Ehsize: 0xb1b2, Phentsize: 0xb3b4, Phnum: 0xb5b6,
		})
	}
	return k.bytes(std.Header64{
		Ident: k.ident(), Type: uint16(h.Type), Machine: uint16(h.Machine), Shoff: h.Shoff,
		Shentsize: uint16(h.Shentsize), Shnum: uint16(h.Shnum), Shstrndx: uint16(h.Shstrndx),
		Version: 0xd1d2d3d4, Entry: 0xe1e2e3e4e5e6e7e8, Phoff: 0xf1f2f3f4f5f6f7f8, Flags: 0xc1c2c3c4, Ehsize: 0xb1b2, Phentsize: 0xb3b4, Phnum: 0xb5b6,
	})
}

// entry is an entry of the section table, with an address and an alignment that nothing may look at.
func (k kind) entry(s api.Section) string {
	if k.class == 32 {
		return k.bytes(std.Section32{
			Name: uint32(s.Name), Type: uint32(s.Type), Flags: uint32(s.Flags), Off: uint32(s.Offset), Size: uint32(s.Size),
			Link: uint32(s.Link), Info: uint32(s.Info), Entsize: uint32(s.EntSize), Addr: 0xa1a2a3a4, Addralign: 0xa5a6a7a8,
		})
	}
	return k.bytes(std.Section64{
		Name: uint32(s.Name), Type: uint32(s.Type), Flags: s.Flags, Off: s.Offset, Size: s.Size,
		Link: uint32(s.Link), Info: uint32(s.Info), Entsize: s.EntSize, Addr: 0xa1a2a3a4a5a6a7a8, Addralign: 0xa9aaabacadaeafb0,
	})
}

func (k kind) entries(list []api.Section) string {
	var b []byte
	for _, s := range list {
		b = append(b, k.entry(s)...)
	}
	return string(b)
}

// plain is a header that tells truly of a table of count entries right behind it.
func (k kind) plain(count int) api.ELF {
	return api.ELF{Class: k.class, Order: k.order, Type: 1, Machine: 62, Shoff: uint64(k.headSize()), Shentsize: k.entrySize(), Shnum: count}
}

// file is a header, the list's entries right behind it, and the bytes behind these.
func (k kind) file(h api.ELF, list []api.Section, behind string) string {
	return k.header(h) + k.entries(list) + behind
}

// distinct are n sections in which no two numbers are the same.
func (k kind) distinct(n int) []api.Section {
	list := make([]api.Section, n)
	for i := range list {
		d := 0x01010101 * (16*i + 1)
		list[i] = api.Section{
			Name: d, Type: d + 1, Flags: uint64(d + 2), Link: d + 3, Info: d + 4, Offset: uint64(d + 5), Size: uint64(d + 6), EntSize: uint64(d + 7),
		}
	}
	return list
}

// with is b with other bytes from place at on.
func with(b string, at int, other string) string { return b[:at] + other + b[at+len(other):] }

func wantIdent(t *testing.T, why, b string, class int, order api.Order, e api.Errno) {
	t.Helper()
	if gotClass, gotOrder, gotE := elf.Ident(b); gotClass != class || gotOrder != order || gotE != e {
		t.Errorf("%s: Ident = %d, %d, %d, want %d, %d, %d", why, gotClass, gotOrder, gotE, class, order, e)
	}
}

func wantHeader(t *testing.T, why, b string, h api.ELF, e api.Errno) {
	t.Helper()
	if got, gotE := elf.Header(b); got != h || gotE != e {
		t.Errorf("%s: Header = %+v, %d, want %+v, %d", why, got, gotE, h, e)
	}
}

func wantSections(t *testing.T, why, b string, list []api.Section, e api.Errno) {
	t.Helper()
	if got, gotE := elf.Sections(b); !slices.Equal(got, list) || gotE != e {
		t.Errorf("%s: Sections: %d, %s, want %d, %s", why, gotE, told(got), e, told(list))
	}
}

// told is a list as a test tells it: its length and its first sections.
func told(list []api.Section) string {
	return fmt.Sprintf("%d sections %+v", len(list), list[:min(len(list), 4)])
}

func wantContent(t *testing.T, why, b string, s api.Section, bytes string, e api.Errno) {
	t.Helper()
	if got, gotE := elf.Content(b, s); got != bytes || gotE != e {
		t.Errorf("%s: Content(%q, %+v) = %q, %d, want %q, %d", why, b, s, got, gotE, bytes, e)
	}
}

func wantStr(t *testing.T, table string, off int, s string, e api.Errno) {
	t.Helper()
	if got, gotE := elf.Str(table, off); got != s || gotE != e {
		t.Errorf("Str(%q, %d) = %q, %d, want %q, %d", table, off, got, gotE, s, e)
	}
}

func wantName(t *testing.T, why, b string, i int, name string, e api.Errno) {
	t.Helper()
	if got, gotE := elf.SectionName(b, i); got != name || gotE != e {
		t.Errorf("%s: SectionName(.., %d) = %q, %d, want %q, %d", why, i, got, gotE, name, e)
	}
}
