package nm_test

import (
	"bytes"
	"debug/elf"
	"encoding/binary"
	"fmt"
	"strings"

	"shelf/api"
)

// shape is how an ELF file's numbers stand.
type shape struct {
	class int
	order binary.ByteOrder
}

// shapes are all that there are.
func shapes() []shape {
	return []shape{{64, binary.LittleEndian}, {64, binary.BigEndian}, {32, binary.LittleEndian}, {32, binary.BigEndian}}
}

// bytesOf are the bytes of a struct, or of a list of them.
func (s shape) bytesOf(x any) string {
	var b bytes.Buffer
	if err := binary.Write(&b, s.order, x); err != nil {
		panic(err)
	}
	return b.String()
}

func (s shape) ident() [16]byte {
	id := [16]byte{0x7f, 'E', 'L', 'F', 2, 1, 1}
	if s.class == 32 {
		id[4] = 1
	}
	if s.order == binary.BigEndian {
		id[5] = 2
	}
	return id
}

// header is a file's header.
func (s shape) header(table, count int) string {
	if s.class == 32 {
		return s.bytesOf(elf.Header32{Ident: s.ident(), Type: 1, Version: 1, Shoff: uint32(table), Shentsize: 40, Shnum: uint16(count)})
	}
	return s.bytesOf(elf.Header64{Ident: s.ident(), Type: 1, Version: 1, Shoff: uint64(table), Shentsize: 64, Shnum: uint16(count)})
}

func (s shape) section(x api.Section) string {
	if s.class == 32 {
		return s.bytesOf(elf.Section32{Type: uint32(x.Type), Flags: uint32(x.Flags), Off: uint32(x.Offset), Size: uint32(x.Size), Link: uint32(x.Link), Entsize: uint32(x.EntSize)})
	}
	return s.bytesOf(elf.Section64{Type: uint32(x.Type), Flags: x.Flags, Off: x.Offset, Size: x.Size, Link: uint32(x.Link), Entsize: x.EntSize})
}

func (s shape) symbol(name int, x api.Symbol) string {
	info := byte(x.Bind<<4 | x.Type)
	if s.class == 32 {
		return s.bytesOf(elf.Sym32{Name: uint32(name), Value: uint32(x.Value), Size: uint32(x.Size), Info: info, Other: byte(x.Other), Shndx: uint16(x.Section)})
	}
	return s.bytesOf(elf.Sym64{Name: uint32(name), Info: info, Other: byte(x.Other), Shndx: uint16(x.Section), Value: x.Value, Size: x.Size})
}

// tables are the bytes of a symbol table and of its strings; the nameless first symbol stands ahead.
func (s shape) tables(list []api.Symbol) (string, string) {
	table, texts := s.symbol(0, api.Symbol{}), "\x00"
	for _, x := range list {
		at := 0
		if x.Name != "" {
			at = len(texts)
			texts += x.Name + "\x00"
		}
		table += s.symbol(at, x)
	}
	return table, texts
}

// object is an ELF file with these sections, and behind them for each list of symbols a symbol table and its strings. The section table stands at its very end.
func (s shape) object(secs []api.Section, lists ...[]api.Symbol) string {
	all := append([]api.Section{}, secs...)
	at := len(s.header(0, 0))
	body := ""
	for _, list := range lists {
		table, texts := s.tables(list)
		all = append(all, api.Section{Type: 2, Link: len(all) + 1, Offset: uint64(at + len(body)), Size: uint64(len(table)), EntSize: uint64(len(s.symbol(0, api.Symbol{})))})
		all = append(all, api.Section{Type: 3, Offset: uint64(at + len(body) + len(table)), Size: uint64(len(texts))})
		body += table + texts
	}
	b := s.header(at+len(body), len(all)) + body
	for _, x := range all {
		b += s.section(x)
	}
	return b
}

// sections are those of the tests' files: code, data, constants, room, a remark.
func sections() []api.Section {
	return []api.Section{{}, {Type: 1, Flags: 6}, {Type: 1, Flags: 3}, {Type: 1, Flags: 2}, {Type: 8, Flags: 3}, {Type: 1}}
}

// object is an ELF file of class 64 with these symbols.
func object(list ...api.Symbol) string { return shapes()[0].object(sections(), list) }

// narrow is an ELF file of class 32 with these symbols.
func narrow(list ...api.Symbol) string { return shapes()[2].object(sections(), list) }

// symbol is one of this bind, in this section.
func symbol(name string, bind, section int, value uint64) api.Symbol {
	return api.Symbol{Name: name, Bind: bind, Section: section, Value: value}
}

// global is a name that a file defines for others, in its code.
func global(name string) api.Symbol { return symbol(name, 1, 1, 0) }

// needed is a name that a file needs from others.
func needed(name string) api.Symbol { return symbol(name, 1, 0, 0) }

// row is a row of a global symbol in the code, unless the section is 0.
func row(name string, value uint64, section int) api.Row {
	letter := byte('T')
	if section == 0 {
		letter = 'U'
	}
	return api.Row{Symbol: symbol(name, 1, section, value), Letter: letter}
}

// head is a header of 60 bytes.
func head(field string, size int) string {
	return field + strings.Repeat(" ", 16-len(field)) + fmt.Sprintf("%-12d%-6d%-6d%-8o%-10d`\n", 5, 1, 2, 0o644, size)
}

// part is a header and its data, made even.
func part(field, data string) string {
	b := head(field, len(data)) + data
	if len(data)%2 == 1 {
		b += "\n"
	}
	return b
}

// regular is an archive of these parts.
func regular(parts ...string) string { return "!<arch>\n" + strings.Join(parts, "") }

// thin is a thin archive of these parts; ordinary members of it are headers alone.
func thin(parts ...string) string { return "!<thin>\n" + strings.Join(parts, "") }

// pair is a pair of an index.
type pair struct {
	name string
	at   int
}

// bigIndex is the content of an index of numbers of 4 or 8 bytes.
func bigIndex(width int, list ...pair) string {
	b := bigNumber(width, len(list))
	for _, x := range list {
		b += bigNumber(width, x.at)
	}
	for _, x := range list {
		b += x.name + "\x00"
	}
	if len(b)%2 == 1 {
		b += "\x00"
	}
	return b
}

func bigNumber(width, n int) string {
	b := binary.BigEndian.AppendUint64(nil, uint64(n))
	return string(b[8-width:])
}

// symdef is the content of a BSD index.
func symdef(list ...pair) string {
	pairs, texts := []byte{}, ""
	for _, x := range list {
		pairs = binary.LittleEndian.AppendUint32(pairs, uint32(len(texts)))
		pairs = binary.LittleEndian.AppendUint32(pairs, uint32(x.at))
		texts += x.name + "\x00"
	}
	if len(texts)%2 == 1 {
		texts += "\x00"
	}
	b := binary.LittleEndian.AppendUint32(nil, uint32(len(pairs)))
	b = append(b, pairs...)
	b = binary.LittleEndian.AppendUint32(b, uint32(len(texts)))
	return string(b) + texts
}
