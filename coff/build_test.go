package coff_test

import (
	"bytes"
	"debug/elf"
	"encoding/binary"
	"fmt"
	"strings"

	"shelf/api"
)

const (
	magic = "!<arch>\n"
	thin  = "!<thin>\n"
	tail  = "`\n"
)

// hex are the bytes of hexadecimal digits, parted by blanks and commas.
func hex(s string) string {
	var b []byte
	for _, f := range strings.Fields(strings.ReplaceAll(s, ",", " ")) {
		var v byte
		if _, err := fmt.Sscanf(f, "%x", &v); err != nil {
			panic(err)
		}
		b = append(b, v)
	}
	return string(b)
}

func pair(name string, at int) api.Entry { return api.Entry{Name: name, At: at} }

func list(l ...api.Entry) []api.Entry { return l }

func ats(l ...int) []int { return l }

// head is a header with all its numbers.
func head(field string, m api.Meta, size int) string {
	return fmt.Sprintf("%-16s%-12d%-6d%-6d%-8o%-10d`\n", field, m.Date, m.UID, m.GID, m.Mode, size)
}

// h is the chapter's H(f, n).
func h(field string, size int) string { return head(field, api.Meta{}, size) }

// padded is data with the newline that they call for if their length is odd.
func padded(data string) string { return data + strings.Repeat("\n", len(data)%2) }

// whole is a part with its data.
func whole(field, data string) string { return h(field, len(data)) + padded(data) }

// dated is a part whose header has a date.
func dated(field string, date int, data string) string {
	return head(field, api.Meta{Date: date}, len(data)) + padded(data)
}

var own = api.Meta{Date: 5, UID: 6, GID: 7, Mode: 0o640}

// member has numbers that no other part has.
func member(name, data string) api.Member {
	return api.Member{Meta: own, Name: name, Size: len(data), Data: data}
}

// mem is what whole is told as.
func mem(name, data string) api.Member {
	return api.Member{Name: name, Size: len(data), Data: data}
}

func members(l ...api.Member) []api.Member { return l }

// letters are n of them, no two beside each other equal.
func letters(n int) string { return strings.Repeat("abcdefghijklmnopqrstuvwxyz", n/26+1)[:n] }

// high4 and low2, low4 are numbers in bytes, the highest or the lowest first.
func high4(v int) string { return string([]byte{byte(v >> 24), byte(v >> 16), byte(v >> 8), byte(v)}) }

func low2(v int) string { return string([]byte{byte(v), byte(v >> 8)}) }

func low4(v int) string { return string([]byte{byte(v), byte(v >> 8), byte(v >> 16), byte(v >> 24)}) }

// first is the content of a first linker member, pair by pair as they stand.
func first(l ...api.Entry) string {
	var b strings.Builder
	b.WriteString(high4(len(l)))
	for _, x := range l {
		b.WriteString(high4(x.At))
	}
	for _, x := range l {
		b.WriteString(x.Name + "\x00")
	}
	return b.String() + strings.Repeat("\x00", b.Len()%2)
}

// second is the content of a second linker member, its parts as they are told.
func second(at []int, numbers []int, names ...string) string {
	var b strings.Builder
	b.WriteString(low4(len(at)))
	for _, x := range at {
		b.WriteString(low4(x))
	}
	b.WriteString(low4(len(numbers)))
	for _, x := range numbers {
		b.WriteString(low2(x))
	}
	for _, x := range names {
		b.WriteString(x + "\x00")
	}
	return b.String()
}

// none are the two linker members of an archive without members.
func none() string { return whole("/", first()) + whole("/", second(nil, nil)) }

// bytesOf are the bytes of structs, the lowest first.
func bytesOf(l ...any) string {
	var b bytes.Buffer
	for _, x := range l {
		if err := binary.Write(&b, binary.LittleEndian, x); err != nil {
			panic(err)
		}
	}
	return b.String()
}

// withSymbols is an ELF file with these entries of its symbol table, whose names stand in texts.
func withSymbols(texts string, table ...elf.Sym64) string {
	table = append([]elf.Sym64{{}}, table...)
	at := uint64(64 + 24*len(table))
	end := at + uint64(len(texts))
	id := [16]byte{0x7f, 'E', 'L', 'F', 2, 1, 1}
	sections := []elf.Section64{{}, {Type: 2, Off: 64, Size: at - 64, Link: 2, Entsize: 24}, {Type: 3, Off: at, Size: end - at}}
	return bytesOf(elf.Header64{Ident: id, Type: 1, Version: 1, Shoff: end, Shentsize: 64, Shnum: 3}, table) + texts + bytesOf(sections)
}

// offer is a symbol that its file defines for others; its name stands at a place of the texts.
func offer(place int) elf.Sym64 { return elf.Sym64{Name: uint32(place), Info: 1 << 4, Shndx: 1} }

// defines is an ELF file that defines these names for others, in this order.
func defines(names ...string) string {
	texts := "\x00"
	var table []elf.Sym64
	for _, name := range names {
		table = append(table, offer(len(texts)))
		texts += name + "\x00"
	}
	return withSymbols(texts, table...)
}

// setByte is s with the byte c at at.
func setByte(s string, at int, c byte) string { return s[:at] + string([]byte{c}) + s[at+1:] }
