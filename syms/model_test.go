package syms_test

import (
	"bytes"
	std "debug/elf"
	"encoding/binary"
	"math/rand"
	"strings"
	"testing"

	"shelf/api"
	"shelf/elf"
	"shelf/syms"
)

// modelTable is the chapter's steps one by one, on what elf tells of the sections, with the library's own structs for what stands where.
func modelTable(b string) ([]api.Symbol, api.Errno) {
	sections, e := elf.Sections(b)
	if e != api.OK {
		return nil, e
	}
	var all []api.Symbol
	for _, s := range sections {
		if s.Type != 2 {
			continue
		}
		list, e := modelOne(b, sections, s)
		if e != api.OK {
			return nil, e
		}
		all = append(all, list...)
	}
	return all, api.OK
}

func modelOne(b string, sections []api.Section, s api.Section) ([]api.Symbol, api.Errno) {
	k := kind{32 * int(b[4]), api.Order(b[5] - 1)}
	each := uint64(k.symbolSize())
	if s.EntSize != each || s.Size%each != 0 {
		return nil, api.ErrEntSize
	}
	table, ok := modelBytes(b, s)
	if !ok {
		return nil, api.ErrCut
	}
	if s.Link >= len(sections) || sections[s.Link].Type != 3 {
		return nil, api.ErrLink
	}
	names, ok := modelBytes(b, sections[s.Link])
	if !ok {
		return nil, api.ErrCut
	}
	var list []api.Symbol
	for r := strings.NewReader(table); r.Len() > 0; {
		n := modelEntry(k, r)
		if n.place != 0 {
			if uint64(n.place) >= uint64(len(names)) {
				return nil, api.ErrString
			}
			name, _, ended := strings.Cut(names[n.place:], "\x00")
			if !ended {
				return nil, api.ErrString
			}
			n.Name = name
		}
		list = append(list, n.Symbol)
	}
	return list, api.OK
}

func modelBytes(b string, s api.Section) (string, bool) {
	length := uint64(len(b))
	if s.Size > length || s.Offset > length-s.Size {
		return "", false
	}
	return b[s.Offset:][:s.Size], true
}

// modelEntry takes one entry from the reader.
func modelEntry(k kind, r *strings.Reader) entry {
	var narrow std.Sym32
	var wide std.Sym64
	if k.class == 32 {
		binary.Read(r, k.byteOrder(), &narrow)
		wide = std.Sym64{Name: narrow.Name, Value: uint64(narrow.Value), Size: uint64(narrow.Size), Info: narrow.Info, Other: narrow.Other, Shndx: narrow.Shndx}
	} else {
		binary.Read(r, k.byteOrder(), &wide)
	}
	return entry{wide.Name, api.Symbol{
		Bind: int(std.ST_BIND(wide.Info)), Type: int(std.ST_TYPE(wide.Info)), Other: int(wide.Other), Section: int(wide.Shndx), Value: wide.Value, Size: wide.Size,
	}}
}

// modelNames are the names that a file defines and those that it needs.
func modelNames(b string) (globals, needs []string) {
	list, _ := modelTable(b)
	for _, s := range list {
		visible := s.Bind == 1 || s.Bind == 2
		switch {
		case s.Name == "":
		case visible && s.Section != 0:
			globals = append(globals, s.Name)
		case s.Bind == 1:
			needs = append(needs, s.Name)
		}
	}
	return globals, needs
}

// chance makes files: most of them nearly sound, with numbers at the edges of what they tell of.
type chance struct{ *rand.Rand }

// near is the good number mostly, else one a little beside it or far out.
func (c chance) near(good uint64) uint64 {
	switch c.Intn(200) {
	case 0:
		return good + 1
	case 1:
		return good - 1
	case 2:
		return -good
	case 3:
		return c.Uint64()
	}
	return good
}

func (c chance) strings() part {
	b := make([]byte, c.Intn(14))
	for i := range b {
		b[i] = "\x00abc\xff"[c.Intn(5)]
	}
	if len(b) > 0 && c.Intn(12) > 0 {
		b[len(b)-1] = 0
	}
	return strs(string(b))
}

// entry has a place within a string table of length bytes, mostly.
func (c chance) entry(length int) entry {
	n := entry{0, api.Symbol{Bind: c.Intn(4), Type: c.Intn(16), Other: c.Intn(256), Section: c.Intn(2) * c.Intn(1<<16), Value: c.Uint64(), Size: c.Uint64()}}
	if c.Intn(4) > 0 && length > 1 {
		n.place = uint32(c.near(uint64(1 + c.Intn(length-1))))
	}
	return n
}

func (c chance) file() string {
	k := kinds()[c.Intn(4)]
	parts := make([]part, 1+c.Intn(6))
	var tables []int
	for i := range parts {
		switch c.Intn(5) {
		case 0:
			parts[i] = part{api.Section{Type: c.Intn(12)}, "some bytes"[:c.Intn(11)]}
		case 1, 2:
			parts[i] = c.strings()
			tables = append(tables, i)
		}
	}
	for i := range parts {
		if parts[i].Type != 0 || len(tables) == 0 {
			continue
		}
		names := tables[c.Intn(len(tables))]
		list := make([]entry, c.Intn(5))
		for j := range list {
			list[j] = c.entry(len(parts[names].bytes))
		}
		parts[i] = k.symbols(int(uint32(c.near(uint64(names+1)))), list...)
		parts[i].EntSize = c.near(parts[i].EntSize)
	}
	how := layout{first: c.Intn(2) == 0, back: c.Intn(2) == 0, gap: strings.Repeat("\x01", c.Intn(3)*c.Intn(20)), change: func(list []api.Section) {
		for i := range list {
			list[i].Offset, list[i].Size, list[i].Info = c.near(list[i].Offset), c.near(list[i].Size), int(c.Uint32())
		}
	}}
	return c.spoil(k.file(how, parts...))
}

// spoil cuts the file, adds to it or changes a byte, mostly nothing of it.
func (c chance) spoil(b string) string {
	switch c.Intn(20) {
	case 0:
		return b[:c.Intn(len(b)+1)]
	case 1:
		return b + string(bytes.Repeat([]byte{byte(c.Intn(256))}, c.Intn(100)))
	case 2:
		return with(b, c.Intn(len(b)), string([]byte{byte(c.Intn(256))}))
	case 3:
		return with(b, c.Intn(7), string([]byte{byte(c.Intn(4))}))
	}
	return b
}

// 6.1 to 6.3 and 6.7: chance files against the chapter's words; each refusal and each kind of answer must have come up.
func TestChanceFiles(t *testing.T) {
	c := chance{rand.New(rand.NewSource(6))}
	seen, withGlobals, withNeeds := map[api.Errno]int{}, 0, 0
	for range 30000 {
		b := c.file()
		list, e := modelTable(b)
		globals, needs := modelNames(b)
		wantTable(t, "chance", b, list, e)
		wantGlobals(t, "chance", b, globals...)
		wantNeeds(t, "chance", b, needs...)
		seen[e]++
		withGlobals += min(len(globals), 1)
		withNeeds += min(len(needs), 1)
		if t.Failed() {
			t.Fatalf("of the file %q", b)
		}
	}
	for _, e := range []api.Errno{api.OK, api.ErrNoELF, api.ErrClass, api.ErrByteOrder, api.ErrVersion, api.ErrCut, api.ErrEntSize, api.ErrString, api.ErrLink} {
		if seen[e] < 20 {
			t.Errorf("answer %d came up %d times", e, seen[e])
		}
	}
	if withGlobals < 1000 || withNeeds < 1000 {
		t.Errorf("%d files with globals, %d with needs", withGlobals, withNeeds)
	}
}

// R1: each byte of a file made another one, and bytes without any sense.
func TestChanceBytes(t *testing.T) {
	c := chance{rand.New(rand.NewSource(66))}
	for _, k := range kinds() {
		b := k.many(layout{})
		for at := range len(b) {
			other := with(b, at, string([]byte{byte(c.Intn(256))}))
			list, e := modelTable(other)
			wantTable(t, k.String(), other, list, e)
		}
		for range 200 {
			raw := make([]byte, c.Intn(300))
			c.Read(raw)
			copy(raw, b[:7])
			list, e := modelTable(string(raw))
			wantTable(t, k.String(), string(raw), list, e)
		}
	}
}

// The library's own reader of ELF files finds the same symbols in a sound file, but for the first entry, which it leaves out.
func TestAgainstTheLibrary(t *testing.T) {
	for _, k := range kinds() {
		b := k.sound(nil)
		f, err := std.NewFile(strings.NewReader(b))
		if err != nil {
			t.Fatal(k, err)
		}
		theirs, err := f.Symbols()
		ours, e := syms.Table(b)
		if err != nil || e != api.OK || len(theirs) != len(ours)-1 {
			t.Fatalf("%s: %v, %v; %v, %d", k, theirs, err, ours, e)
		}
		for i, s := range theirs {
			want := api.Symbol{Name: s.Name, Bind: int(std.ST_BIND(s.Info)), Type: int(std.ST_TYPE(s.Info)), Other: int(s.Other), Section: int(s.Section), Value: s.Value, Size: s.Size}
			if ours[i+1] != want {
				t.Errorf("%s: symbol %d: %+v, want %+v", k, i+1, ours[i+1], want)
			}
		}
	}
}
