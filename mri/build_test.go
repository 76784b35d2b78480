package mri_test

import (
	"bytes"
	"debug/elf"
	"encoding/binary"
	"fmt"
	"strings"

	"shelf/api"
)

// head is a header of 60 bytes.
func head(field string, m api.Meta, size int) string {
	return fmt.Sprintf("%-16s%-12d%-6d%-6d%-8o%-10d`\n", field, m.Date, m.UID, m.GID, m.Mode, size)
}

// padded is data made even.
func padded(data string) string {
	if len(data)%2 == 1 {
		return data + "\n"
	}
	return data
}

// part is a header and its data.
func part(field string, m api.Meta, data string) string {
	return head(field, m, len(data)) + padded(data)
}

// regular is an archive of these parts.
func regular(parts ...string) string { return "!<arch>\n" + strings.Join(parts, "") }

// gnu is a regular archive of files with short names, without an index.
func gnu(list ...api.Member) string {
	b := regular()
	for _, m := range list {
		b += part(m.Name+"/", m.Meta, m.Data)
	}
	return b
}

// thin is a thin archive, without an index.
func thin(list ...api.Member) string {
	table, heads := "", ""
	for _, m := range list {
		heads += head(fmt.Sprint("/", len(table)), m.Meta, m.Size)
		table += m.Name + "/\n"
	}
	if table == "" {
		return "!<thin>\n"
	}
	return "!<thin>\n" + part("//", api.Meta{}, table) + heads
}

// bsd is a BSD archive of files with short names, without an index.
func bsd(list ...api.Member) string {
	b := regular()
	for _, m := range list {
		b += part(m.Name, m.Meta, m.Data)
	}
	return b
}

// member is a member as a file of tests becomes one.
func member(name, data string) api.Member {
	return api.Member{Meta: own, Name: name, Size: len(data), Data: data}
}

// dated is a member of another date.
func dated(m api.Member, date int) api.Member {
	m.Date = date
	return m
}

// normal is a member as D has it.
func normal(m api.Member) api.Member {
	m.Meta = api.Meta{Mode: 0o644}
	return m
}

// entry is a pair of an index.
type entry struct {
	name string
	at   int
}

// narrow is the content of an index of 32 bits.
func narrow(list ...entry) string { return big(4, list) }

// wide is the content of an index of 64 bits.
func wide(list ...entry) string { return big(8, list) }

func big(width int, list []entry) string {
	b := bigNumber(width, len(list))
	for _, x := range list {
		b += bigNumber(width, x.at)
	}
	for _, x := range list {
		b += x.name + "\x00"
	}
	if len(b)%2 == 1 {
		b += "\x00"
	}
	return b
}

func bigNumber(width, n int) string {
	b := binary.BigEndian.AppendUint64(nil, uint64(n))
	return string(b[8-width:])
}

// symdef is the content of a BSD index.
func symdef(list ...entry) string {
	pairs, texts := []byte{}, ""
	for _, x := range list {
		pairs = binary.LittleEndian.AppendUint32(pairs, uint32(len(texts)))
		pairs = binary.LittleEndian.AppendUint32(pairs, uint32(x.at))
		texts += x.name + "\x00"
	}
	if len(texts)%2 == 1 {
		texts += "\x00"
	}
	b := binary.LittleEndian.AppendUint32(nil, uint32(len(pairs)))
	b = append(b, pairs...)
	b = binary.LittleEndian.AppendUint32(b, uint32(len(texts)))
	return string(b) + texts
}

// object is an ELF file that defines these names for others.
func object(names ...string) string {
	texts := "\x00"
	table := []elf.Sym64{{}}
	for _, name := range names {
		table = append(table, elf.Sym64{Name: uint32(len(texts)), Info: 1 << 4, Shndx: 1})
		texts += name + "\x00"
	}
	at := uint64(64 + 24*len(table))
	end := at + uint64(len(texts))
	id := [16]byte{0x7f, 'E', 'L', 'F', 2, 1, 1}
	return numbers(elf.Header64{Ident: id, Type: 1, Version: 1, Shoff: end, Shentsize: 64, Shnum: 3}) +
		numbers(table) + texts +
		numbers([]elf.Section64{{}, {Type: 2, Off: 64, Size: at - 64, Link: 2, Entsize: 24}, {Type: 3, Off: at, Size: end - at}})
}

// numbers are the bytes of a struct, or of a list of them.
func numbers(x any) string {
	var b bytes.Buffer
	if err := binary.Write(&b, binary.LittleEndian, x); err != nil {
		panic(err)
	}
	return b.String()
}

// filled is a text of n bytes in which no piece is like another one.
func filled(n int) string {
	var b strings.Builder
	for i := range n {
		b.WriteByte(byte(i*7 + i/256*13 + 1))
	}
	return b.String()
}
