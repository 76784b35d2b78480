package coff_test

import (
	"strings"
	"testing"

	"shelf/api"
)

// arch is an archive of these parts behind two linker members that tell of no symbol. Of the parts the table alone is no member.
func arch(parts ...string) string {
	count := 0
	for _, p := range parts {
		if !strings.HasPrefix(p, "// ") {
			count++
		}
	}
	b := 8 + 60 + 4 + 60 + 8 + 4*count
	var at []int
	for _, p := range parts {
		if !strings.HasPrefix(p, "// ") {
			at = append(at, b)
		}
		b += len(p)
	}
	return magic + whole("/", first()) + whole("/", second(at, nil)) + strings.Join(parts, "")
}

// beginnings are whole parts; the next one has the number that they are told at.
func beginnings() [][]string {
	one := magic + whole("/", first())
	two := magic + none()
	table := whole("//", letters(16)+"\x00")
	return [][]string{
		{magic},
		{one, magic + whole("/", ""), magic + whole("/", "xyz"), magic + dated("/", 9, "\x00")},
		{two, one + whole("/", ""), one + whole("/", "odd")},
		{two + table, two + whole("a/", "x"), two + whole("//", "")},
		{two + table + whole("/0", "x"), two + whole("a/", "") + whole("a/", "")},
	}
}

// fault is the beginning of a part that is refused.
type fault struct {
	part string
	e    api.Errno
}

// withTail and withNumber are a header with another end, with another text in the column of a number.
func withTail(h, end string) string { return h[:58] + end }

func withNumber(h string, at int, text string) string { return h[:at] + text + h[at+len(text):] }

func headFaults(field string) []fault {
	x := h(field, 1)
	all := []fault{{x[:1], api.ErrShort}, {x[:30], api.ErrShort}, {x[:59], api.ErrShort}, {"\n", api.ErrShort}, {strings.Repeat("\n", 60), api.ErrTail},
		{withTail(x, "\n\n"), api.ErrTail}, {withTail(x, "`\r") + "x\n", api.ErrTail}, {withNumber(withTail(x, "``"), 16, "x"), api.ErrTail}}
	for _, at := range []int{16, 28, 34, 40, 48} {
		all = append(all, fault{withNumber(x, at, "x"), api.ErrField}, fault{withNumber(x, at, "-1") + "x\n", api.ErrField})
	}
	return append(all, fault{withNumber(x, 40, "8"), api.ErrField})
}

// nameFaults have name fields that layer 8 refuses; each has a size that the data don't have, too, which is not told.
func nameFaults() []fault {
	var all []fault
	for _, field := range []string{"", "a/b", "/x", "a//", "/SYM64", "a\x00", "/1x", "/-1", "#2/3", "/ 1"} {
		all = append(all, fault{h(field, 0), api.ErrName}, fault{h(field, 99), api.ErrName}, fault{h(field, 1) + "x", api.ErrName})
	}
	return all
}

// sortFaults are parts that may not stand there, with data and without.
func sortFaults(number int) []fault {
	var all []fault
	add := func(e api.Errno, fields ...string) {
		for _, field := range fields {
			all = append(all, fault{h(field, 0), e}, fault{h(field, 2) + "xy", e}, fault{h(field, 99), e}, fault{h(field, 1) + "xy", e})
		}
	}
	strange := []string{"/SYM64/", "a", "#1/1", "#1/99", "__.SYMDEF", "__.SYMDEF SORTED"}
	switch {
	case number < 2:
		add(api.ErrPlace, strange...)
		add(api.ErrPlace, "//", "a/", "/0", "/99")
	case number == 2:
		add(api.ErrPlace, "/")
		add(api.ErrMixed, strange...)
	default:
		add(api.ErrPlace, "/", "//")
		add(api.ErrMixed, strange...)
	}
	return all
}

// dataFaults are of parts that may stand there.
func dataFaults(fields ...string) []fault {
	var all []fault
	for _, field := range fields {
		all = append(all, fault{h(field, 1), api.ErrData}, fault{h(field, 2) + "x", api.ErrData}, fault{h(field, 9999999999) + "xy", api.ErrData},
			fault{h(field, 4) + "abc", api.ErrData}, fault{h(field, 5) + "abcd", api.ErrData},
			fault{h(field, 1) + "x", api.ErrPad}, fault{h(field, 3) + "abc", api.ErrPad}, fault{h(field, 1) + "x\r", api.ErrPad}, fault{h(field, 3) + "abc\x00" + h("a/", 0), api.ErrPad},
			fault{h(field, 1) + "\n" + h("a/", 0), api.ErrPad})
	}
	return all
}

// partFaults are those of the part with this number.
func partFaults(number int) []fault {
	all := append(nameFaults(), sortFaults(number)...)
	for _, field := range []string{"/", "a/", "a/b", "/0", "a", "//"} {
		all = append(all, headFaults(field)...)
	}
	switch {
	case number < 2:
		return append(all, dataFaults("/")...)
	case number == 2:
		return append(all, dataFaults("//", "a/", "/0", "/99")...)
	}
	return append(all, dataFaults("a/", "/0", "/99")...)
}

// 23.7: each part is refused for what is the first reason, with the place of its header, whatever is behind it.
func TestReadPartRefusals(t *testing.T) {
	for number, all := range beginnings() {
		for _, b := range all {
			for _, x := range partFaults(number) {
				wantNoRead(t, b+x.part, len(b), x.e)
			}
		}
	}
}

// 23.7: what is behind the part that is refused is not looked at, nor are the linker members.
func TestReadFirstPartIsTheAnswer(t *testing.T) {
	wantNoRead(t, magic+h("a/", 0)+h("a/b", 0), 8, api.ErrPlace)
	wantNoRead(t, magic+h("/", 0)+h("/", 0)+h("a", 0)+"x", 128, api.ErrMixed)
	wantNoRead(t, magic+h("/", 0)+h("/", 0)+h("a/", 1)+"x", 128, api.ErrPad)
	wantNoRead(t, magic+h("/", 0)+h("/", 0)+h("a/", 0)+h("/", 0)+h("b/", 9), 188, api.ErrPlace)
	wantNoRead(t, magic+h("/", 2)+"xy"+h("/", 0), 8, api.ErrIndex)
}

// 23.7: the regular magic stands first, and no other.
func TestReadMagic(t *testing.T) {
	for _, b := range []string{"", "!", "!<arch>", thin, thin + none(), "!<arch>\r" + none(), "x" + magic + none(), "\n" + magic, "!<ARCH>\n" + none(), "!<bout>\n", none()} {
		wantNoRead(t, b, 0, api.ErrMagic)
	}
}

// 23.7: an archive that ends ahead of its two linker members, whatever the one says that is there.
func TestReadEndsAhead(t *testing.T) {
	for _, b := range []string{magic, magic + whole("/", first()), magic + whole("/", ""), magic + whole("/", "x"), magic + whole("/", "abc"), magic + whole("/", first(pair("f", 8)))} {
		wantNoRead(t, b, len(b), api.ErrPlace)
	}
}

// 23.7: an archive that is cut off at any place.
func TestReadCut(t *testing.T) {
	b := archive(5, defining("a", "f"), plain(letters(17), "x"), plain("c", ""), plain("d", "odd"))
	starts := []int{8}
	for _, size := range []int{10, 4 + 4*4 + 4 + 2 + 2, 18, len(defines("f")), 1, 0, 3} {
		starts = append(starts, starts[len(starts)-1]+60+(size+1)/2*2)
	}
	if starts[7] != len(b) {
		t.Fatalf("the archive has %d bytes, its parts end at %d", len(b), starts[7])
	}
	sizes := []int{10, 28, 18, len(defines("f")), 1, 0, 3}
	for length := range len(b) {
		number := 0
		for number < 7 && starts[number+1] <= length {
			number++
		}
		inside := length - starts[number]
		switch {
		case length < 8:
			wantNoRead(t, b[:length], 0, api.ErrMagic)
		case inside == 0 && number < 2:
			wantNoRead(t, b[:length], length, api.ErrPlace)
		case inside == 0:
			wantNoRead(t, b[:length], starts[1], api.ErrSecond)
		case inside < 60:
			wantNoRead(t, b[:length], starts[number], api.ErrShort)
		case inside < 60+sizes[number]:
			wantNoRead(t, b[:length], starts[number], api.ErrData)
		default:
			wantNoRead(t, b[:length], starts[number], api.ErrPad)
		}
	}
}

// wantName wants that a field that means a place in the table leads to a name.
func wantName(t *testing.T, table, field, name string) {
	t.Helper()
	at := 8 + 64 + 60 + 12 + 60 + len(padded(table))
	b := arch(whole("//", table), whole(field, "data"))
	wantRead(t, b, parsed(first(), 0, ats(at), members(mem(name, "data"))), nil)
}

// wantNoName wants that it is refused; that no newline, nor the data, stands behind is told ahead of it.
func wantNoName(t *testing.T, table, field string, e api.Errno) {
	t.Helper()
	b := magic + none() + whole("//", table)
	wantNoRead(t, b+h(field, 0), len(b), e)
	wantNoRead(t, b+whole(field, "odd")+"rest", len(b), e)
	wantNoRead(t, b+h(field, 1)+"x", len(b), api.ErrPad)
	wantNoRead(t, b+h(field, 1), len(b), api.ErrData)
	wantNoRead(t, b+whole("a/", "x")+h(field, 0), len(b)+62, e)
}

// 23.7: a name in the table goes up to the first byte 0, wherever it begins.
func TestReadTable(t *testing.T) {
	wantName(t, "a.o\x00b.o\x00", "/0", "a.o")
	wantName(t, "a.o\x00b.o\x00", "/1", ".o")
	wantName(t, "a.o\x00b.o\x00", "/4", "b.o")
	wantName(t, "a.o\x00b.o\x00", "/6", "o")
	wantName(t, "a.o\x00b.o\x00", "/000000000000004", "b.o")
	wantName(t, "a.o\x00b.o", "/2", "o")
	wantName(t, "a/b\x00", "/2", "b")
	wantName(t, "//\x00\n\x00", "/3", "\n")
	wantName(t, "a\n b\xff\x00", "/0", "a\n b\xff")
	wantName(t, "__.SYMDEF\x00", "/0", "__.SYMDEF")
	wantName(t, letters(1000)+"\x00", "/0", letters(1000))
}

// 23.7: no name stands there.
func TestReadNoName(t *testing.T) {
	for _, field := range []string{"/0", "/1", "/999999999999999"} {
		wantNoName(t, "", field, api.ErrTable)
		b := magic + none()
		wantNoRead(t, b+h(field, 0), 140, api.ErrTable)
		wantNoRead(t, b+h("a/", 0)+h(field, 0), 200, api.ErrTable)
	}
	for _, field := range []string{"/8", "/9", "/10", "/4294967296", "/999999999999999"} {
		wantNoName(t, "a.o\x00b.o\x00", field, api.ErrTable)
	}
	wantNoName(t, "a\x00", "/2", api.ErrTable)
	wantNoName(t, "ab\x00", "/3", api.ErrTable)
	wantNoName(t, "a.o\x00b.o", "/4", api.ErrTable)
	wantNoName(t, "a.o\x00b/o", "/4", api.ErrTable)
	wantNoName(t, "ab", "/0", api.ErrTable)
	wantNoName(t, "a.o/\n", "/0", api.ErrTable)
	wantNoName(t, "a\x00b", "/2", api.ErrTable)
	wantNoName(t, "a\x00\x00", "/2", api.ErrName)
	wantNoName(t, "\x00", "/0", api.ErrName)
	wantNoName(t, "a.o\x00b.o\x00", "/3", api.ErrName)
	wantNoName(t, "a/b\x00", "/0", api.ErrName)
	wantNoName(t, "a/b\x00", "/1", api.ErrName)
	wantNoName(t, "a.o/\n\x00", "/0", api.ErrName)
}

// 23.7: a table behind a member is none, so its names are not there; and it may stand as part 2 alone.
func TestReadSecondTable(t *testing.T) {
	table := whole("//", "a.o\x00")
	wantNoRead(t, magic+none()+table+table, 140+64, api.ErrPlace)
	wantNoRead(t, magic+none()+whole("a/", "")+table, 200, api.ErrPlace)
	wantNoRead(t, magic+none()+whole("/0", ""), 140, api.ErrTable)
	wantNoRead(t, magic+whole("/", first())+table, 72, api.ErrPlace)
	wantNoRead(t, magic+table+none(), 8, api.ErrPlace)
	wantRead(t, arch(table), parsed(first(), 0, nil, nil), nil)
	wantRead(t, arch(whole("//", "")), parsed(first(), 0, nil, nil), nil)
	wantRead(t, arch(whole("//", "no byte 0"), whole("a/", "")), parsed(first(), 0, ats(8+64+60+12+60+10), members(mem("a", ""))), nil)
}
