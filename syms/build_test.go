package syms_test

import (
	"bytes"
	std "debug/elf"
	"encoding/binary"
	"slices"
	"strconv"
	"strings"
	"testing"

	"shelf/api"
	"shelf/syms"
)

// kind is a class and a byte order: what a file's numbers stand by.
type kind struct {
	class int
	order api.Order
}

func kinds() []kind {
	return []kind{{32, api.Little}, {32, api.Big}, {64, api.Little}, {64, api.Big}}
}

func (k kind) String() string {
	return "class " + strconv.Itoa(k.class) + ", order " + strconv.Itoa(int(k.order))
}

func (k kind) headSize() int    { return k.pick(52, 64) }
func (k kind) sectionSize() int { return k.pick(40, 64) }
func (k kind) symbolSize() int  { return k.pick(16, 24) }

func (k kind) pick(narrow, wide int) int {
	if k.class == 32 {
		return narrow
	}
	return wide
}

func (k kind) byteOrder() binary.ByteOrder {
	if k.order == api.Big {
		return binary.BigEndian
	}
	return binary.LittleEndian
}

// bytes are the numbers of the struct v, one behind another.
func (k kind) bytes(v any) string {
	var b bytes.Buffer
	if err := binary.Write(&b, k.byteOrder(), v); err != nil {
		panic(err)
	}
	return b.String()
}

// header is a header that tells of a table of count sections at shoff.
func (k kind) header(shoff, count int) string {
	id := [16]byte{0x7f, 'E', 'L', 'F', byte(k.class / 32), byte(k.order) + 1, 1}
	if k.class == 32 {
		return k.bytes(std.Header32{Ident: id, Type: 1, Version: 1, Shoff: uint32(shoff), Shentsize: 40, Shnum: uint16(count)})
	}
	return k.bytes(std.Header64{Ident: id, Type: 1, Version: 1, Shoff: uint64(shoff), Shentsize: 64, Shnum: uint16(count)})
}

func (k kind) section(s api.Section) string {
	if k.class == 32 {
		return k.bytes(std.Section32{
			Name: uint32(s.Name), Type: uint32(s.Type), Flags: uint32(s.Flags), Off: uint32(s.Offset), Size: uint32(s.Size),
			Link: uint32(s.Link), Info: uint32(s.Info), Entsize: uint32(s.EntSize),
		})
	}
	return k.bytes(std.Section64{
		Name: uint32(s.Name), Type: uint32(s.Type), Flags: s.Flags, Off: s.Offset, Size: s.Size,
		Link: uint32(s.Link), Info: uint32(s.Info), Entsize: s.EntSize,
	})
}

// entry is an entry of a symbol table: a name's place in the string table, and a symbol without its name.
type entry struct {
	place uint32
	api.Symbol
}

func (k kind) entry(n entry) string {
	info := byte(n.Bind*16 + n.Type)
	if k.class == 32 {
		return k.bytes(std.Sym32{Name: n.place, Value: uint32(n.Value), Size: uint32(n.Size), Info: info, Other: byte(n.Other), Shndx: uint16(n.Section)})
	}
	return k.bytes(std.Sym64{Name: n.place, Value: n.Value, Size: n.Size, Info: info, Other: byte(n.Other), Shndx: uint16(n.Section)})
}

// part is a section to be, with its bytes.
type part struct {
	api.Section
	bytes string
}

// symbols is a symbol table whose names stand in section link.
func (k kind) symbols(link int, list ...entry) part {
	var b strings.Builder
	for _, n := range list {
		b.WriteString(k.entry(n))
	}
	return part{api.Section{Type: 2, Link: link, EntSize: uint64(k.symbolSize())}, b.String()}
}

func strs(b string) part { return part{api.Section{Type: 3}, b} }

// layout is how a file's parts are put together.
type layout struct {
	first  bool                     // the section table stands ahead of the sections' bytes
	back   bool                     // the sections' bytes stand the other way round
	gap    string                   // stands ahead of each of the file's parts but the header
	behind string                   // stands at the end
	change func(list []api.Section) // changes what the section table says
}

// file has section 0 and the parts as sections 1, 2 and so on.
func (k kind) file(how layout, parts ...part) string {
	list := make([]api.Section, 1, len(parts)+1)
	for _, p := range parts {
		list = append(list, p.Section)
	}
	numbers := make([]int, len(parts))
	for i := range parts {
		numbers[i] = i
	}
	if how.back {
		slices.Reverse(numbers)
	}
	at := k.headSize() + len(how.gap)
	shoff := at
	if how.first {
		at += len(list)*k.sectionSize() + len(how.gap)
	}
	var body strings.Builder
	for i, number := range numbers {
		if i > 0 {
			body.WriteString(how.gap)
		}
		list[number+1].Offset = uint64(at + body.Len())
		list[number+1].Size = uint64(len(parts[number].bytes))
		body.WriteString(parts[number].bytes)
	}
	if !how.first {
		shoff = at + body.Len() + len(how.gap)
	}
	if how.change != nil {
		how.change(list)
	}
	var table strings.Builder
	for _, s := range list {
		table.WriteString(k.section(s))
	}
	ahead, after := body.String(), table.String()
	if how.first {
		ahead, after = after, ahead
	}
	return k.header(shoff, len(list)) + how.gap + ahead + how.gap + after + how.behind
}

// with is b with other bytes from place at on.
func with(b string, at int, other string) string { return b[:at] + other + b[at+len(other):] }

func wantTable(t *testing.T, why, b string, list []api.Symbol, e api.Errno) {
	t.Helper()
	if got, gotE := syms.Table(b); !slices.Equal(got, list) || gotE != e {
		t.Errorf("%s: Table: %+v, %d, want %+v, %d", why, got, gotE, list, e)
	}
}

// wantRefused asks that a file has neither symbols nor names of any kind.
func wantRefused(t *testing.T, why, b string, e api.Errno) {
	t.Helper()
	wantTable(t, why, b, nil, e)
	wantGlobals(t, why, b)
	wantNeeds(t, why, b)
}

func wantGlobals(t *testing.T, why, b string, names ...string) {
	t.Helper()
	if got := syms.Globals(b); !slices.Equal(got, names) {
		t.Errorf("%s: Globals: %q, want %q", why, got, names)
	}
}

func wantNeeds(t *testing.T, why, b string, names ...string) {
	t.Helper()
	if got := syms.Needs(b); !slices.Equal(got, names) {
		t.Errorf("%s: Needs: %q, want %q", why, got, names)
	}
}
