package elf_test

import (
	"strconv"
	"strings"
	"testing"

	"shelf/api"
)

// 5.1: sixteen bytes are enough, and fewer are not, of every class and order.
func TestIdent(t *testing.T) {
	for _, k := range kinds() {
		id := k.ident()
		b := string(id[:])
		wantIdent(t, k.String(), b, k.class, k.order, api.OK)
		wantIdent(t, k.String()+" and more", b+"\x00", k.class, k.order, api.OK)
		for n := range len(b) {
			wantIdent(t, k.String()+", first "+strconv.Itoa(n), b[:n], 0, 0, api.ErrNoELF)
		}
	}
}

// 5.1: every value of every byte by itself.
func TestEveryByteOfIdent(t *testing.T) {
	for _, k := range kinds() {
		id := k.ident()
		for at := range id {
			for v := range 256 {
				b := with(string(id[:]), at, string([]byte{byte(v)}))
				class, order, e := identOf(b)
				wantIdent(t, k.String()+", byte "+strconv.Itoa(at)+" is "+strconv.Itoa(v), b, class, order, e)
			}
		}
	}
}

// identOf is what 5.1 says of b.
func identOf(b string) (int, api.Order, api.Errno) {
	switch {
	case len(b) < 16 || !strings.HasPrefix(b, "\x7fELF"):
		return 0, 0, api.ErrNoELF
	case b[4] != 1 && b[4] != 2:
		return 0, 0, api.ErrClass
	case b[5] != 1 && b[5] != 2:
		return 0, 0, api.ErrByteOrder
	case b[6] != 1:
		return 0, 0, api.ErrVersion
	}
	return 32 * int(b[4]), api.Order(b[5]) - 1, api.OK
}

// 5.1: of several refusals the first one, for Header, Sections and SectionName too.
func TestOrderOfIdentRefusals(t *testing.T) {
	for _, k := range kinds() {
		for bad := range 32 {
			b := k.file(k.plain(1), []api.Section{{}}, "")
			want := api.OK
			for _, part := range []struct {
				bit int
				at  int
				e   api.Errno
			}{{8, 6, api.ErrVersion}, {4, 5, api.ErrByteOrder}, {2, 4, api.ErrClass}, {1, 3, api.ErrNoELF}} {
				if bad&part.bit != 0 {
					b = with(b, part.at, "\x03")
					want = part.e
				}
			}
			if bad&16 != 0 {
				b = b[:15]
				want = api.ErrNoELF
			}
			why := k.String() + ", bad " + strconv.Itoa(bad)
			if want == api.OK {
				wantIdent(t, why, b, k.class, k.order, api.OK)
				continue
			}
			wantIdent(t, why, b, 0, 0, want)
			wantHeader(t, why, b, api.ELF{}, want)
			wantSections(t, why, b, nil, want)
			wantName(t, why, b, -1, "", want)
		}
	}
}

// 5.2: each field as it stands, at its bounds too, whether it makes sense or not.
func TestHeader(t *testing.T) {
	for _, k := range kinds() {
		for _, h := range []api.ELF{
			{},
			{Type: 0x0102, Machine: 0x0304, Shoff: 0x05060708, Shentsize: 0x090a, Shnum: 0x0b0c, Shstrndx: 0x0d0e},
			{Type: 0xfffe, Machine: 0xfffd, Shoff: k.most(), Shentsize: 0xfffc, Shnum: 0xfffb, Shstrndx: 0xffff},
			{Type: 0x8000}, {Machine: 0x8000}, {Shoff: k.most()/2 + 1}, {Shentsize: 0x8000}, {Shnum: 0x8000}, {Shstrndx: 0x8000},
			{Type: 0xffff}, {Machine: 0xffff}, {Shoff: k.most()}, {Shentsize: 0xffff}, {Shnum: 0xffff}, {Shstrndx: 0xffff},
		} {
			h.Class, h.Order = k.class, k.order
			wantHeader(t, k.String(), k.header(h), h, api.OK)
			wantHeader(t, k.String()+" and more", k.header(h)+strings.Repeat("\xee", 99), h, api.OK)
		}
	}
	wide := kind{64, api.Big}
	h := api.ELF{Class: 64, Order: api.Big, Shoff: 0x0102030405060708}
	wantHeader(t, "eight bytes", wide.header(h), h, api.OK)
}

// 5.2: a header that is cut at any place.
func TestCutHeader(t *testing.T) {
	for _, k := range kinds() {
		b := k.header(k.plain(0))
		for n := range len(b) {
			want := api.ErrCut
			if n < 16 {
				want = api.ErrNoELF
			}
			why := k.String() + ", first " + strconv.Itoa(n)
			wantHeader(t, why, b[:n], api.ELF{}, want)
			wantSections(t, why, b[:n], nil, want)
			wantName(t, why, b[:n], 0, "", want)
		}
	}
}
