package elf_test

import (
	"slices"
	"strconv"
	"strings"
	"testing"

	"shelf/api"
	"shelf/elf"
)

// atEnd are files whose table stands at their very end and has entries: behind a gap, right behind the header, with its count in entry 0.
func (k kind) atEnd() []string {
	list := k.distinct(3)
	counted := k.distinct(3)
	counted[0].Size = 3
	far := k.plain(3)
	far.Shoff += 33
	over := k.plain(1)
	over.Shoff = uint64(k.headSize() - k.entrySize()/2)
	return []string{
		k.file(k.plain(3), list, ""),
		k.file(k.plain(1), list[:1], ""),
		k.header(far) + strings.Repeat("\xee", 33) + k.entries(list),
		k.file(k.plain(0), counted, ""),
		k.header(over) + strings.Repeat("\xee", k.entrySize()/2),
	}
}

// 5.7: bytes at the end change nothing.
func TestBytesAtTheEnd(t *testing.T) {
	for _, k := range kinds() {
		for i, b := range k.atEnd() {
			h, e := elf.Header(b)
			list, e2 := elf.Sections(b)
			if e != api.OK || e2 != api.OK || len(list) == 0 {
				t.Fatalf("%s, file %d: %d, %d, %v", k, i, e, e2, list)
			}
			for _, more := range []string{"\x00", "\xff", b, k.entry(list[0]), strings.Repeat("\x7f", 1000)} {
				wantHeader(t, k.String(), b+more, h, api.OK)
				wantSections(t, k.String(), b+more, list, api.OK)
			}
		}
		none := k.file(k.plain(0), []api.Section{{}}, "")
		wantSections(t, k.String()+", count 0", none+"more", nil, api.OK)
		wantSections(t, k.String()+", no table", k.header(api.ELF{})+"more", nil, api.OK)
	}
}

// 5.7: every shorter beginning is refused.
func TestShorterBeginnings(t *testing.T) {
	for _, k := range kinds() {
		for i, b := range k.atEnd() {
			for n := range len(b) {
				want := api.ErrCut
				if n < 16 {
					want = api.ErrNoELF
				}
				why := k.String() + ", file " + strconv.Itoa(i) + ", first " + strconv.Itoa(n)
				wantSections(t, why, b[:n], nil, want)
				wantName(t, why, b[:n], 0, "", want)
			}
		}
	}
}

// 5.7: of all bytes only those of the header and of the table matter; of these, only those that the chapter names.
func TestBytesThatDoNotMatter(t *testing.T) {
	for _, k := range kinds() {
		h := k.plain(2)
		h.Shoff += 20
		b := k.header(h) + strings.Repeat("\xee", 20) + k.entries(k.distinct(2)) + strings.Repeat("\xee", 20)
		head, _ := elf.Header(b)
		list, _ := elf.Sections(b)
		for at := range len(b) {
			other := with(b, at, string([]byte{b[at] ^ 0x55}))
			gotHead, e := elf.Header(other)
			same := gotHead == head && e == api.OK
			gotList, e := elf.Sections(other)
			same = same && slices.Equal(gotList, list) && e == api.OK
			if matters := k.matters(at); same == matters {
				t.Errorf("%s: byte %d is changed: the same %v, want %v", k, at, same, !matters)
			}
		}
	}
}

// span is the places from one on up to another, without it.
type span struct{ from, to int }

func within(at int, spans []span) bool {
	return slices.ContainsFunc(spans, func(s span) bool { return at >= s.from && at < s.to })
}

// matters: does the byte at this place of TestBytesThatDoNotMatter's file stand in a field that is told?
func (k kind) matters(at int) bool {
	header := []span{{0, 7}, {16, 20}, {32, 36}, {46, 52}}
	entry := []span{{0, 12}, {16, 32}, {36, 40}}
	if k.class == 64 {
		header = []span{{0, 7}, {16, 20}, {40, 48}, {58, 64}}
		entry = []span{{0, 16}, {24, 48}, {56, 64}}
	}
	if at < k.headSize() {
		return within(at, header)
	}
	at -= k.headSize() + 20
	return at >= 0 && at < 2*k.entrySize() && within(at%k.entrySize(), entry)
}

// 5.8: the other byte order, the same sections and names.
func TestTheOtherByteOrder(t *testing.T) {
	for _, class := range []int{32, 64} {
		little, big := kind{class, api.Little}, kind{class, api.Big}
		for i, b := range little.atEnd()[:4] {
			list, e := elf.Sections(b)
			if e != api.OK {
				t.Fatalf("%s, file %d: %d", little, i, e)
			}
			wantSections(t, big.String(), big.atEnd()[i], list, api.OK)
		}
		for i := range 3 {
			name, e := elf.SectionName(little.named(2, nil), i)
			wantName(t, big.String(), big.named(2, nil), i, name, e)
		}
		mixed := with(little.file(little.plain(1), []api.Section{{}}, ""), 5, "\x02")
		wantSections(t, "the byte at 5 alone is another one", mixed, nil, api.ErrEntSize)
	}
}
