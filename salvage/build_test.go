package salvage_test

import (
	"bytes"
	"debug/elf"
	"encoding/binary"
	"fmt"
	"strings"

	"shelf/api"
)

const (
	regular = "!<arch>\n"
	thin    = "!<thin>\n"
	tail    = "`\n"
)

// xs are sixty bytes that are no header: the chapter's X.
var xs = strings.Repeat("x", 60)

// head is a header with all its numbers.
func head(field string, m api.Meta, size int) string {
	return fmt.Sprintf("%-16s%-12d%-6d%-6d%-8o%-10d`\n", field, m.Date, m.UID, m.GID, m.Mode, size)
}

// h is the chapter's H(f, n).
func h(field string, size int) string { return head(field, api.Meta{Mode: 0o644}, size) }

// whole is a part with its data, and the newline if they call for one.
func whole(field, data string) string {
	return h(field, len(data)) + data + strings.Repeat("\n", len(data)%2)
}

// mem is what whole is told as.
func mem(name, data string) api.Member {
	return api.Member{Meta: api.Meta{Mode: 0o644}, Name: name, Size: len(data), Data: data}
}

// away is what h is told as in a thin archive.
func away(name string, size int) api.Member {
	return api.Member{Meta: api.Meta{Mode: 0o644}, Name: name, Size: size}
}

// placed is a member with the place of its header.
type placed struct {
	at int
	api.Member
}

// at is what whole is told as, with its place.
func at(place int, name, data string) placed { return placed{place, mem(name, data)} }

// parsed is what Read is to tell of parts.
func parsed(kind api.Kind, form api.Form, index string, list ...placed) api.Parsed {
	p := api.Parsed{Archive: api.Archive{Kind: kind, Form: form, Index: index}}
	for _, x := range list {
		p.At, p.Members = append(p.At, x.at), append(p.Members, x.Member)
	}
	return p
}

// gnu is a GNU archive without an index, as it is told.
func gnu(list ...placed) api.Parsed { return parsed(api.GNU, api.NoIndex, "", list...) }

// bad is a damage.
func bad(at, length int, e api.Errno) api.Damage { return api.Damage{At: at, Len: length, Code: e} }

// lost are damages.
func lost(list ...api.Damage) []api.Damage { return list }

// bytesOf are the bytes of structs, the low byte first.
func bytesOf(list ...any) string {
	var b bytes.Buffer
	for _, x := range list {
		if err := binary.Write(&b, binary.LittleEndian, x); err != nil {
			panic(err)
		}
	}
	return b.String()
}

// object is an ELF file that defines these names for others.
func object(defines ...string) string {
	texts := "\x00"
	table := []elf.Sym64{{}}
	for _, name := range defines {
		table = append(table, elf.Sym64{Name: uint32(len(texts)), Info: 1 << 4, Shndx: 1})
		texts += name + "\x00"
	}
	at := uint64(64 + 24*len(table))
	end := at + uint64(len(texts))
	id := [16]byte{0x7f, 'E', 'L', 'F', 2, 1, 1}
	sections := []elf.Section64{{}, {Type: 2, Off: 64, Size: at - 64, Link: 2, Entsize: 24}, {Type: 3, Off: at, Size: end - at}}
	return bytesOf(elf.Header64{Ident: id, Type: 1, Version: 1, Shoff: end, Shentsize: 64, Shnum: 3}, table) + texts + bytesOf(sections)
}

// index32 is the content of an index in the narrow form.
func index32(list ...api.Entry) string {
	places, names := bytesOf(), ""
	for _, x := range list {
		places += string([]byte{byte(x.At >> 24), byte(x.At >> 16), byte(x.At >> 8), byte(x.At)})
		names += x.Name + "\x00"
	}
	return string([]byte{0, 0, 0, byte(len(list))}) + places + names
}

// setByte is s with the byte c at at.
func setByte(s string, at int, c byte) string { return s[:at] + string([]byte{c}) + s[at+1:] }
