package order_test

import (
	"bytes"
	"debug/elf"
	"encoding/binary"
	"strings"
)

// words are the words of a text.
func words(s string) []string { return strings.Fields(s) }

// symbol is one of an object file.
type symbol struct {
	name    string
	bind    int
	section int
}

// bytesOf are the bytes of structs, the low byte first.
func bytesOf(list ...any) string {
	var b bytes.Buffer
	for _, x := range list {
		if err := binary.Write(&b, binary.LittleEndian, x); err != nil {
			panic(err)
		}
	}
	return b.String()
}

// objectOf is an ELF file with these symbols. The section table stands at its very end.
func objectOf(list ...symbol) string {
	texts := "\x00"
	table := []elf.Sym64{{}}
	for _, s := range list {
		table = append(table, elf.Sym64{Name: uint32(len(texts)), Info: byte(s.bind << 4), Shndx: uint16(s.section)})
		texts += s.name + "\x00"
	}
	at := uint64(64 + 24*len(table))
	end := at + uint64(len(texts))
	id := [16]byte{0x7f, 'E', 'L', 'F', 2, 1, 1}
	sections := []elf.Section64{{}, {Type: 2, Off: 64, Size: at - 64, Link: 2, Entsize: 24}, {Type: 3, Off: at, Size: end - at}}
	return bytesOf(elf.Header64{Ident: id, Type: 1, Version: 1, Shoff: end, Shentsize: 64, Shnum: 3}, table) + texts + bytesOf(sections)
}

// object is an ELF file that defines and needs these names; what it has beside them is neither for others nor from others.
func object(defines, needs []string) string {
	list := []symbol{{"own", 0, 1}, {"weakly", 2, 0}, {"nobody", 0, 0}}
	for _, name := range needs {
		list = append(list, symbol{name, 1, 0})
	}
	for i, name := range defines {
		list = append(list, symbol{name, 1 + i%2, 1})
	}
	return objectOf(list...)
}

// obj is object of names that are parted by blanks.
func obj(defines, needs string) string { return object(words(defines), words(needs)) }
