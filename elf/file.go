package elf

import (
	"shelf/api"
	"shelf/num"
)

// identSize is how many bytes stand ahead of what hangs on the class and the byte order.
const identSize = 16

// magic is what every ELF file begins with.
var magic = [4]byte{0x7f, 'E', 'L', 'F'}

// file is an ELF file with what its first bytes say of all others.
type file struct {
	shape
	bytes string
	order api.Order
}

// identify asks whether b is an ELF file, and of which class and order.
func identify(b string) *file {
	var first [4]byte
	copy(first[:], b)
	require(len(b) >= identSize && first == magic, api.ErrNoELF)
	f := &file{bytes: b, shape: shapeOf(b[4]), order: orderOf(b[5])}
	require(b[6] == 1, api.ErrVersion)
	return f
}

// shapeOf is the shape that the byte at 4 means.
func shapeOf(class byte) shape {
	switch class {
	case 1:
		return shape32()
	case 2:
		return shape64()
	}
	panic(api.ErrClass)
}

// orderOf is the order that the byte at 5 means.
func orderOf(order byte) api.Order {
	switch order {
	case 1:
		return api.Little
	case 2:
		return api.Big
	}
	panic(api.ErrByteOrder)
}

// header reads the file's header as it stands.
func (f *file) header() api.ELF {
	head := piece(f.bytes, 0, f.head.length)
	return api.ELF{
		Class:     f.class,
		Order:     f.order,
		Type:      int(f.number(head, f.head.kind)),
		Machine:   int(f.number(head, f.head.machine)),
		Shoff:     f.number(head, f.head.shoff),
		Shentsize: int(f.number(head, f.head.shentsize)),
		Shnum:     int(f.number(head, f.head.shnum)),
		Shstrndx:  int(f.number(head, f.head.shstrndx)),
	}
}

// section reads an entry of the section table as it stands.
func (f *file) section(entry string) api.Section {
	return api.Section{
		Name:    int(f.number(entry, f.entry.name)),
		Type:    int(f.number(entry, f.entry.kind)),
		Flags:   f.number(entry, f.entry.flags),
		Link:    int(f.number(entry, f.entry.link)),
		Info:    int(f.number(entry, f.entry.info)),
		Offset:  f.number(entry, f.entry.offset),
		Size:    f.number(entry, f.entry.size),
		EntSize: f.number(entry, f.entry.entSize),
	}
}

// number reads a part's number in the file's order.
func (f *file) number(part string, c column) uint64 {
	n, e := num.Load(part, c.at, c.width, f.order)
	require(e == api.OK, api.ErrCut)
	return n
}

// piece is the n bytes of b from p on. Neither p nor n is added to before both are known to be small: a sum of them could wrap.
func piece(b string, p, n uint64) string {
	length := uint64(len(b))
	require(p <= length && n <= length-p, api.ErrCut)
	return b[p : p+n]
}
