package arc_test

import (
	"strings"
	"testing"

	"shelf/api"
	"shelf/arc"
)

// 9.1: every beginning of the magics but the whole, and what does not begin there.
func TestMagicCut(t *testing.T) {
	for _, magic := range []string{regular, thin} {
		for n := range len(magic) {
			wantRefused(t, magic[:n], 0, api.ErrMagic)
			wantRefused(t, magic[n+1:], 0, api.ErrMagic)
			wantRefused(t, magic[:n]+magic[n+1:]+h("a/", 0), 0, api.ErrMagic)
		}
		wantRefused(t, " "+magic, 0, api.ErrMagic)
		wantRefused(t, "\n"+magic+h("a/", 0), 0, api.ErrMagic)
		wantRefused(t, strings.ToUpper(magic), 0, api.ErrMagic)
	}
	wantRefused(t, h("a/", 0), 0, api.ErrMagic)
	wantRefused(t, regular[:4]+thin[4:6]+regular[6:], 0, api.ErrMagic)
}

// 9.1: every byte at every place of the magics.
func TestMagicEveryByte(t *testing.T) {
	for _, magic := range []string{regular, thin} {
		for at := range len(magic) {
			for c := range 256 {
				changed := setByte(magic, at, byte(c))
				if changed == magic {
					continue
				}
				wantRefused(t, changed, 0, api.ErrMagic)
				wantRefused(t, changed+h("a/", 0), 0, api.ErrMagic)
			}
		}
	}
}

// 9.2: what a part's wrongs are, in the order of the refusals that they call for.
const (
	wrongTail = iota
	wrongField
	wrongName
	wrongMixed
	wrongPlace
	wrongData
	wrongPad
	wrongLook
	wrongs
)

// refusalOf is the refusal that each wrong calls for; of the last one GNU's.
func refusalOf(wrong int) api.Errno {
	return []api.Errno{api.ErrTail, api.ErrField, api.ErrName, api.ErrMixed, api.ErrPlace, api.ErrData, api.ErrPad, api.ErrTable}[wrong]
}

// wrongNameField is a GNU archive's or, of bsd, a BSD archive's field with just these wrongs.
func wrongNameField(has func(int) bool, bsd bool) string {
	switch {
	case has(wrongName):
		return "a/b"
	case has(wrongPlace) && has(wrongMixed) != bsd:
		return "__.SYMDEF"
	case has(wrongPlace):
		return "//"
	case has(wrongLook) && has(wrongMixed) != bsd:
		return "#1/999"
	case has(wrongLook):
		return "/999"
	case has(wrongMixed) != bsd:
		return "b"
	}
	return "b/"
}

// wrongPart is a part with these wrongs, and what the file ends with.
func wrongPart(has func(int) bool, bsd bool) string {
	data := "data"
	if has(wrongPad) {
		data = "datax"
	}
	size := len(data)
	if has(wrongPad) {
		size = 3
	}
	if has(wrongData) {
		size += 1000
	}
	x := h(wrongNameField(has, bsd), size)
	if has(wrongField) {
		x = x[:40] + "8" + x[41:]
	}
	if has(wrongTail) {
		x = x[:59] + "`"
	}
	return x + data
}

// 9.2: every set of wrongs in one part, behind an ordinary member: the first in the chapter's order is answered.
func TestOrderOfRefusals(t *testing.T) {
	for set := 1; set < 1<<wrongs; set++ {
		has := func(wrong int) bool { return set&(1<<wrong) != 0 }
		first := 0
		for !has(first) {
			first++
		}
		gnu, bsd := refusalOf(first), refusalOf(first)
		if first == wrongLook {
			bsd = api.ErrName
		}
		wantRefused(t, regular+whole("a/", "x")+wrongPart(has, false), 70, gnu)
		wantRefused(t, regular+whole("a", "x")+wrongPart(has, true), 70, bsd)
		wantRefused(t, regular+h("a/", 0)+h("c/", 0)+wrongPart(has, false), 128, gnu)
		if first != wrongData && first != wrongPad { // a thin archive's ordinary members have no data that could be wrong
			wantRefused(t, thin+h("a/", 1)+wrongPart(has, false), 68, gnu)
		}
	}
}

// 9.2: a header that is not whole, whatever stands in it, at the first part and at later ones.
func TestShortHeaders(t *testing.T) {
	for n := 1; n < api.HeadSize; n++ {
		for _, x := range []string{h("a/", 0), h("a", 0), h("//", 9), h("", 0), strings.Repeat("\n", 60), strings.Repeat("`\n", 30), strings.Repeat("\x00", 60)} {
			wantRefused(t, regular+x[:n], 8, api.ErrShort)
			wantRefused(t, thin+x[:n], 8, api.ErrShort)
			wantRefused(t, regular+whole("a/", "x")+x[:n], 70, api.ErrShort)
			wantRefused(t, regular+whole("a", "xy")+x[:n], 70, api.ErrShort)
			wantRefused(t, thin+h("a/", 77)+x[:n], 68, api.ErrShort)
		}
	}
}

// 9.2: headers that chapter 7 refuses, and fields that chapter 8 refuses.
func TestNoHeaders(t *testing.T) {
	good := h("a/", 0)
	for c := range 256 {
		if c != '`' {
			wantRefused(t, regular+setByte(good, 58, byte(c)), 8, api.ErrTail)
		}
		if c != '\n' {
			wantRefused(t, regular+h("b/", 0)+setByte(good, 59, byte(c)), 68, api.ErrTail)
		}
		if (c < '0' || c > '9') && c != ' ' {
			for _, column := range []int{16, 28, 34, 40, 48} {
				wantRefused(t, regular+setByte(good, column, byte(c)), 8, api.ErrField)
				wantRefused(t, thin+h("b/", 0)+setByte(good, column, byte(c)), 68, api.ErrField)
			}
		}
	}
	for _, field := range []string{"", "/x", "a/b", "a//", "///", "/SYM64", "/SYM64/x", "#1/x", "#2/3", "\x00", "a\x00", "/ 1", "/-1", "#1/-1", "//a"} {
		wantRefused(t, regular+h(field, 0), 8, api.ErrName)
		wantRefused(t, thin+h(field, 0), 8, api.ErrName)
		wantRefused(t, regular+h("a", 0)+h(field, 0), 68, api.ErrName)
	}
}

// 9.2: data that do not lie within the file, by one byte and by many, and sizes that no sum may run over.
func TestDataOutside(t *testing.T) {
	for _, field := range []string{"a/", "a", "/", "//", "/SYM64/", "__.SYMDEF", "#1/1", "/0"} {
		for length := range 70 {
			data := letters(length)
			for _, more := range []int{1, 2, 3, 60, 1 << 31, 1<<32 - length, 1 << 32, api.MaxSize - length} {
				wantRefused(t, regular+h(field, length+more)+data, 8, api.ErrData)
			}
		}
	}
	for _, field := range []string{"/", "//", "/SYM64/"} {
		for _, size := range []int{1, 2, 77, api.MaxSize} {
			wantRefused(t, thin+h(field, size), 8, api.ErrData)
		}
		wantRefused(t, thin+h(field, 5)+"abcd", 8, api.ErrData)
	}
}

// 9.2: every byte in the newline's place, behind members and special members, at the file's end and ahead of a part.
func TestPadBytes(t *testing.T) {
	for c := range 256 {
		behind := string([]byte{byte(c)})
		for _, x := range []string{h("a/", 3), h("a", 3), h("/", 3), h("//", 3), h("/SYM64/", 3), h("__.SYMDEF", 3), h("#1/1", 3)} {
			for _, rest := range []string{"", h("b/", 0), "\n"} {
				b := regular + x + "abc" + behind + rest
				place, _, e := arcPlace(b)
				if c == '\n' && (e == api.ErrPad || place == 8) || c != '\n' && (e != api.ErrPad || place != 8) {
					t.Errorf("%.16q with the byte %d behind its data: %d at %d", x, c, e, place)
				}
			}
		}
		if c != '\n' {
			wantRefused(t, thin+h("//", 3)+"abc"+behind, 8, api.ErrPad)
			wantRefused(t, regular+h("b/", 0)+h("a/", 1)+"x"+behind, 68, api.ErrPad)
		}
	}
	wantRefused(t, regular+h("a/", 1)+"\n", 8, api.ErrPad) // the newline is the data
	wantRefused(t, thin+h("/", 1)+"x", 8, api.ErrPad)
	wantRefused(t, regular+h("a/", 0)+h("a/", 1)+"x", 68, api.ErrPad)
}

// arcPlace is the place, the number of members and the refusal of Parse.
func arcPlace(b string) (int, int, api.Errno) {
	p, place, e := arc.Parse(b)
	return place, len(p.Members), e
}
