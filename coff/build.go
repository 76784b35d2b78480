package coff

import (
	"strconv"
	"strings"

	"shelf/api"
	"shelf/head"
	"shelf/index"
	"shelf/names"
	"shelf/pairs"
	"shelf/part"
	"shelf/syms"
)

// linkers is how many linker members an archive has.
const linkers = 2

// What stands in name fields, beside names and numbers.
const (
	linkerField = "/"
	tableField  = "//"
	shortEnd    = "/" // behind a name
	refMark     = "/" // ahead of a place in the table
)

// longestShort is how many bytes a name in a name field has at most.
const longestShort = 15

func areNames(list []api.Member) bool {
	for _, m := range list {
		if !names.Valid(m.Name) {
			return false
		}
	}
	return true
}

// symbolsOf gathers the names that members define for others, each with the number of its member.
func symbolsOf(list []api.Member) pairs.List[string, int] {
	return pairs.Numbered(list, func(m api.Member) []string { return syms.Globals(m.Data) })
}

// fieldsOf are the members' name fields, and the table of the names that have no room there.
func fieldsOf(list []api.Member) ([]string, string, api.Errno) {
	var table strings.Builder
	fields := make([]string, len(list))
	for i, m := range list {
		if len(m.Name) <= longestShort {
			fields[i] = m.Name + shortEnd
			continue
		}
		if len(m.Name)+1 > api.MaxTable-table.Len() { // ahead of its making: many members may share one long name in memory
			return nil, "", api.ErrSize
		}
		fields[i] = refMark + strconv.Itoa(table.Len())
		table.WriteString(m.Name)
		table.WriteByte(end)
	}
	return fields, table.String(), api.OK
}

// piece is a part of an archive that is being written.
type piece struct {
	api.Head
	text part.Text
}

// pieces are all that stands behind the magic, in order.
type pieces []piece

func (p *pieces) add(h api.Head, data string) {
	*p = append(*p, piece{h, part.Text{2: data}})
}

// piecesOf are the pieces of an archive of these members and of symbols with these names. Of the linker members only the length is known: what they say hangs on where everything stands.
func piecesOf(list []api.Member, symbols []string, stamp int) (pieces, api.Errno) {
	fields, table, e := fieldsOf(list)
	if e != api.OK {
		return nil, e
	}
	first, e := index.Size(api.Index32, symbols)
	if e != api.OK {
		return nil, e
	}
	var all pieces
	for _, length := range [linkers]int{first, lengthOf(len(list), symbols)} {
		all.add(api.Head{Meta: api.Meta{Date: stamp}, Name: linkerField, Size: length}, "")
	}
	if table != "" {
		all.add(api.Head{Name: tableField, Size: len(table)}, table)
	}
	for i, m := range list {
		if m.Size != len(m.Data) {
			return nil, api.ErrSize
		}
		all.add(api.Head{Meta: m.Meta, Name: fields[i], Size: m.Size}, m.Data)
	}
	return all, all.refuseSizes()
}

func (p pieces) refuseSizes() api.Errno {
	for _, x := range p {
		if x.Size > api.MaxSize {
			return api.ErrSize
		}
	}
	return api.OK
}

// format writes the headers.
func (p pieces) format() api.Errno {
	for i, x := range p {
		header, e := head.Format(x.Head)
		if e != api.OK {
			return e
		}
		p[i].text[0] = header
	}
	return api.OK
}

// places are where the headers stand.
func (p pieces) places() []int {
	at := make([]int, len(p))
	next := len(api.MagicRegular)
	for i, x := range p {
		at[i] = next
		next += part.Room(x.Size)
	}
	return at
}

// fillLinkers gives the linker members what they say of members at these places.
func (p pieces) fillLinkers(at []int, list []api.Entry) api.Errno {
	first, e := index.Encode(api.Index32, list)
	if e != api.OK {
		return e
	}
	second, e := Second(at, list)
	if e != api.OK {
		return e
	}
	p[0].text[2], p[1].text[2] = first, second
	return api.OK
}

// join is the archive.
func (p pieces) join() string {
	texts := []part.Text{{api.MagicRegular}}
	for _, x := range p {
		texts = append(texts, x.text)
	}
	return part.Join(texts)
}
