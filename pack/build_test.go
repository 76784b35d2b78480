package pack_test

import (
	"bytes"
	std "debug/elf"
	"encoding/binary"
	"fmt"
	"math"
	"slices"
	"strings"
	"testing"

	"shelf/api"
	"shelf/pack"
)

const (
	wide32     = 4294967296
	maxSize    = 9999999999
	maxMembers = 65536
)

// kinds are all that there are.
func kinds() []api.Kind { return []api.Kind{api.GNU, api.Thin, api.BSD} }

// noKinds are numbers that are no kind.
func noKinds() []api.Kind {
	return []api.Kind{-1, -2, -3, 3, 4, 7, 255, 256, 257, 258, 1 << 32, 1<<32 + 1, 1<<32 + 2, math.MinInt, math.MinInt + 1, math.MaxInt}
}

// noThresholds are numbers that are no threshold.
func noThresholds() []int {
	return []int{0, -1, -2, math.MinInt, -wide32, wide32 + 1, wide32 + 2, 2 * wide32, math.MaxInt}
}

// machine is a class and a byte order of ELF files.
type machine struct {
	class int
	order binary.ByteOrder
}

func machines() []machine {
	return []machine{{32, binary.LittleEndian}, {32, binary.BigEndian}, {64, binary.LittleEndian}, {64, binary.BigEndian}}
}

// mach is the machine for which nothing else is said.
var mach = machine{64, binary.LittleEndian}

// bytes are the numbers of the struct, one behind the other.
func (m machine) bytes(numbers any) string {
	var b bytes.Buffer
	if err := binary.Write(&b, m.order, numbers); err != nil {
		panic(err)
	}
	return b.String()
}

func (m machine) header(shoff int) string {
	id := [16]byte{0x7f, 'E', 'L', 'F', byte(m.class / 32), 1, 1}
	if m.order == binary.BigEndian {
		id[5] = 2
	}
	if m.class == 32 {
		return m.bytes(std.Header32{Ident: id, Type: 1, Version: 1, Shoff: uint32(shoff), Shentsize: 40, Shnum: 3})
	}
	return m.bytes(std.Header64{Ident: id, Type: 1, Version: 1, Shoff: uint64(shoff), Shentsize: 64, Shnum: 3})
}

func (m machine) section(kind, offset, size, link, each int) string {
	if m.class == 32 {
		return m.bytes(std.Section32{Type: uint32(kind), Off: uint32(offset), Size: uint32(size), Link: uint32(link), Entsize: uint32(each)})
	}
	return m.bytes(std.Section64{Type: uint32(kind), Off: uint64(offset), Size: uint64(size), Link: uint32(link), Entsize: uint64(each)})
}

// symbol is what an object file says of a name.
type symbol struct {
	name    string
	bind    int
	section int
}

// offered are symbols that a file defines for others.
func offered(names ...string) []symbol {
	var list []symbol
	for _, name := range names {
		list = append(list, symbol{name, 1, 1})
	}
	return list
}

func (m machine) symbol(place int, s symbol) string {
	if m.class == 32 {
		return m.bytes(std.Sym32{Name: uint32(place), Info: byte(16 * s.bind), Shndx: uint16(s.section)})
	}
	return m.bytes(std.Sym64{Name: uint32(place), Info: byte(16 * s.bind), Shndx: uint16(s.section)})
}

// object is an object file with these symbols.
func (m machine) object(list ...symbol) string {
	texts := "\x00"
	table := m.symbol(0, symbol{})
	each := len(table)
	for _, s := range list {
		table += m.symbol(len(texts), s)
		texts += s.name + "\x00"
	}
	at := len(m.header(0))
	return m.header(at+len(table)+len(texts)) + table + texts +
		m.section(0, 0, 0, 0, 0) + m.section(2, at, len(table), 2, each) + m.section(3, at+len(table), len(texts), 0, 0)
}

// defines is an object file that defines these names for others.
func defines(names ...string) string { return mach.object(offered(names...)...) }

func unit(name string, size int, syms ...string) api.Unit {
	return api.Unit{Spec: api.Spec{Name: name, Size: size}, Syms: syms}
}

func units(list ...api.Unit) []api.Unit { return list }

func member(name, data string) api.Member {
	return api.Member{Meta: api.Meta{Date: 5, UID: 6, GID: 7, Mode: 0o600}, Name: name, Size: len(data), Data: data}
}

func members(list ...api.Member) []api.Member { return list }

// letters are n of them, no two beside each other equal.
func letters(n int) string { return strings.Repeat("abcdefghijklmnopqrstuvwxyz", n/26+1)[:n] }

// plan is a plan with what the examples tell of it.
func plan(at []int, table, total int, form api.Form, index int) api.Plan {
	return api.Plan{Layout: api.Layout{At: at, Table: table, Total: total}, Form: form, Index: index}
}

// same holds two plans against each other; a list without elements is as good as none.
func same(p, q api.Plan) bool {
	return slices.Equal(p.At, q.At) && p.Table == q.Table && p.Total == q.Total && p.Form == q.Form && p.Index == q.Index
}

// few tells units in few words.
func few(list []api.Unit) string {
	s := fmt.Sprintf("%d units", len(list))
	for i := range min(len(list), 5) {
		u := list[i]
		s += fmt.Sprintf("; %.20q %d %d symbols", u.Name, u.Size, len(u.Syms))
		for j := range min(len(u.Syms), 3) {
			s += fmt.Sprintf(" %.20q", u.Syms[j])
		}
	}
	return s
}

// short tells members in few words.
func short(list []api.Member) string {
	s := fmt.Sprintf("%d members", len(list))
	for i := range min(len(list), 5) {
		m := list[i]
		s += fmt.Sprintf("; %.20q %d %v %d bytes %.12q", m.Name, m.Size, m.Meta, len(m.Data), m.Data)
	}
	return s
}

func wantPlan(t *testing.T, kind api.Kind, list []api.Unit, wide int, want api.Plan) {
	t.Helper()
	if p, e := pack.Plan(kind, list, wide); e != api.OK || !same(p, want) {
		t.Errorf("Plan(%d, %s, %d): %.200s, %d, want %.200s", kind, few(list), wide, fmt.Sprint(p), e, fmt.Sprint(want))
	}
}

func wantNoPlan(t *testing.T, kind api.Kind, list []api.Unit, wide int, e api.Errno) {
	t.Helper()
	if p, got := pack.Plan(kind, list, wide); got != e || p.At != nil || !same(p, api.Plan{}) {
		t.Errorf("Plan(%d, %s, %d): %.200s, %d, want nothing, %d", kind, few(list), wide, fmt.Sprint(p), got, e)
	}
}

func wantNoBuild(t *testing.T, kind api.Kind, list []api.Member, stamp, wide int, bare bool, e api.Errno) {
	t.Helper()
	if b, got := pack.Build(kind, list, stamp, wide, bare); got != e || b != "" {
		t.Errorf("Build(%d, %s, %d, %d, %v): %d bytes, %d, want %d", kind, short(list), stamp, wide, bare, len(b), got, e)
	}
}

// built is what Build answers where it must not refuse.
func built(t *testing.T, kind api.Kind, list []api.Member, stamp, wide int, bare bool) string {
	t.Helper()
	b, e := pack.Build(kind, list, stamp, wide, bare)
	if e != api.OK {
		t.Fatalf("Build(%d, %s, %d, %d, %v): %d", kind, short(list), stamp, wide, bare, e)
	}
	return b
}
