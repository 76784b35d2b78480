package names_test

import (
	"strconv"
	"strings"
	"testing"

	"shelf/api"
	"shelf/names"
)

// The numbers that the chapter names.
func TestNumbersOfTheChapter(t *testing.T) {
	if api.ErrName != 80 || api.ErrTable != 81 || api.ErrRange != 12 || api.GNU != 0 || api.Thin != 1 || api.BSD != 2 {
		t.Error("an error or a kind has another number")
	}
	for i, sort := range []int{api.FieldIndex, api.FieldIndex64, api.FieldTable, api.FieldShort, api.FieldRef, api.FieldPlain, api.FieldLong, api.FieldSymdef} {
		if sort != i+1 {
			t.Errorf("sort %d, want %d", sort, i+1)
		}
	}
}

// 8.1: every byte but the slash and 0 may stand in a name, wherever.
func TestEveryByteOfAName(t *testing.T) {
	for c := range 256 {
		want := c != '/' && c != 0
		for length := 1; length <= 20; length++ {
			for at := range length {
				if name := setByte(letters(length), at, byte(c)); names.Valid(name) != want {
					t.Errorf("Valid(%q): %t", name, !want)
				}
			}
		}
		if name := strings.Repeat(string([]byte{byte(c)}), 300); names.Valid(name) != want {
			t.Errorf("Valid of 300 bytes %d: %t", c, !want)
		}
	}
}

// 8.1: the empty name is none; names of fields are names too; a slash and a 0 at once are no better than one of them.
func TestValidNames(t *testing.T) {
	for _, name := range []string{"__.SYMDEF", "__.SYMDEF SORTED", "#1", "SYM64", " ", "  ", ".", "..", letters(1 << 16)} {
		if !names.Valid(name) {
			t.Errorf("Valid(%.20q): false", name)
		}
	}
	for _, name := range []string{"", "/\x00", "\x00/", "/SYM64/", "#1/3", "//", letters(1<<16) + "/", letters(1<<16) + "\x00"} {
		if names.Valid(name) {
			t.Errorf("Valid(%.20q): true", name)
		}
	}
}

// 8.2: the fields that mean themselves; with one byte less, one more or another one they mean something else or nothing.
func TestReadSpecial(t *testing.T) {
	for field, sort := range map[string]int{"/": api.FieldIndex, "/SYM64/": api.FieldIndex64, "//": api.FieldTable, "__.SYMDEF": api.FieldSymdef} {
		wantRead(t, field, api.Field{Sort: sort})
	}
	wantUnread(t, "", "/SYM64", "/SYM6/", "SYM64//", "/SYM64//", "/SYM64/ ", "/SYM64/a", "/sym64/", "/SYM32/", "/SYM644", "///", "// ", "//a", "//1", "/ ", " /SYM64/", "////////////////")
	wantRead(t, "SYM64/", api.Field{Sort: api.FieldShort, Name: "SYM64"})
	wantRead(t, " /", api.Field{Sort: api.FieldShort, Name: " "})
	wantRead(t, "__.SYMDEF/", api.Field{Sort: api.FieldShort, Name: "__.SYMDEF"})
	for _, name := range []string{"__.SYMDE", "__.SYMDEFS", "__.SYMDEF ", " __.SYMDEF", "__.symdef", "_.SYMDEF", "__.SYMDEF SORTED", "__.SYMDEF_64"} {
		wantRead(t, name, api.Field{Sort: api.FieldPlain, Name: name})
	}
}

// 8.2: names of every length with and without a slash, up to 15 and 16 bytes, and beyond.
func TestReadNamesByTheirLengths(t *testing.T) {
	for length := 1; length <= 40; length++ {
		name := letters(length)
		if length <= 16 {
			wantRead(t, name, api.Field{Sort: api.FieldPlain, Name: name})
		} else {
			wantUnread(t, name)
		}
		if length <= 15 {
			wantRead(t, name+"/", api.Field{Sort: api.FieldShort, Name: name})
		} else {
			wantUnread(t, name+"/")
		}
	}
}

// 8.2: every byte at every place of a name, with and without a slash behind.
func TestReadEveryByteOfAName(t *testing.T) {
	for c := range 256 {
		for length := 1; length <= 15; length++ {
			for at := range length {
				name := setByte(letters(length), at, byte(c))
				switch {
				case c == 0:
					wantUnread(t, name, name+"/")
				case c != '/':
					wantRead(t, name, api.Field{Sort: api.FieldPlain, Name: name})
					wantRead(t, name+"/", api.Field{Sort: api.FieldShort, Name: name})
				case length > 1 && at == length-1:
					wantRead(t, name, api.Field{Sort: api.FieldShort, Name: name[:at]})
					wantUnread(t, name+"/")
				case length > 1:
					wantUnread(t, name, name+"/")
				}
			}
		}
	}
}

// numbered is a sort of field that has a number behind a mark.
type numbered struct {
	mark   string
	sort   int
	digits int
}

func numberedSorts() []numbered {
	return []numbered{{"/", api.FieldRef, 15}, {"#1/", api.FieldLong, 13}}
}

// 8.2: numbers of one digit up to the most, each digit at each place, and one digit more.
func TestReadNumbers(t *testing.T) {
	for _, s := range numberedSorts() {
		for length := 1; length <= s.digits; length++ {
			for digit := range 10 {
				all := strings.Repeat(strconv.Itoa(digit), length)
				mixed := (strconv.Itoa(digit) + "123456789012345")[:length]
				for _, digits := range []string{all, mixed} {
					n, err := strconv.Atoi(digits)
					if err != nil {
						t.Fatal(err)
					}
					wantRead(t, s.mark+digits, api.Field{Sort: s.sort, Num: n})
				}
			}
		}
		for more := 1; more <= 10; more++ {
			wantUnread(t, s.mark+strings.Repeat("9", s.digits+more), s.mark+strings.Repeat("0", s.digits+more), s.mark+strings.Repeat("0", s.digits+more-1)+"1")
		}
	}
}

// 8.2: every byte at every place of a number.
func TestReadEveryByteOfANumber(t *testing.T) {
	for _, s := range numberedSorts() {
		for c := range 256 {
			for length := 1; length <= s.digits; length++ {
				for at := range length {
					digits := setByte("123456789012345"[:length], at, byte(c))
					n, err := strconv.ParseUint(digits, 10, 63)
					switch {
					case err == nil:
						wantRead(t, s.mark+digits, api.Field{Sort: s.sort, Num: int(n)})
					case s.mark+digits != "//":
						wantUnread(t, s.mark+digits)
					}
				}
			}
		}
	}
}

// 8.2: numbers that are none, and marks that are none.
func TestReadNoNumbers(t *testing.T) {
	for _, s := range numberedSorts() {
		for _, text := range []string{" ", " 1", "1 ", "12  ", "1 2", "-1", "+1", "-0", "0x1", "1_0", "1.", "1/", "1/2", "x", "1x", "x1", "1\x00", "\x00", "1\n", "\n1", "١"} {
			wantUnread(t, s.mark+text)
		}
	}
	wantUnread(t, "#1//", "#1/ ", "#1/x", "#2/3", "#/3", "#11/3", "1/3", "/#1/3", "##1/3", " #1/3", "#1 /3", "# 1/3", " /3", "#1/3/", "#1/3#1/3", "#1/\x00")
	wantRead(t, "#1/", api.Field{Sort: api.FieldShort, Name: "#1"})
	wantRead(t, "#2/", api.Field{Sort: api.FieldShort, Name: "#2"})
	wantRead(t, "#1", api.Field{Sort: api.FieldPlain, Name: "#1"})
	wantRead(t, "#", api.Field{Sort: api.FieldPlain, Name: "#"})
	wantRead(t, "18", api.Field{Sort: api.FieldPlain, Name: "18"})
	wantRead(t, "18/", api.Field{Sort: api.FieldShort, Name: "18"})
	wantRead(t, "/007", api.Field{Sort: api.FieldRef, Num: 7})
	wantRead(t, "#1/007", api.Field{Sort: api.FieldLong, Num: 7})
}

// 8.2: blanks behind are of the field.
func TestReadBlanksBehind(t *testing.T) {
	for length := 1; length <= 15; length++ {
		blanks := strings.Repeat(" ", length)
		wantRead(t, "a"+blanks, api.Field{Sort: api.FieldPlain, Name: "a" + blanks})
		wantRead(t, blanks, api.Field{Sort: api.FieldPlain, Name: blanks})
		wantRead(t, blanks+"/", api.Field{Sort: api.FieldShort, Name: blanks})
		wantUnread(t, "/"+blanks)
	}
	wantUnread(t, "a/ ", "/1 ", "#1/1 ", "#1/ ", "// ", "/SYM64/ ", "a                ", strings.Repeat(" ", 17))
}

// 8.2: every field of up to three of the bytes that make a difference has one form at most, which the table's words give.
func TestReadEveryShortField(t *testing.T) {
	bytes := []string{"/", "#", "1", "0", "9", "a", " ", "\x00", "\n", "\xff", ":", "_"}
	var fields []string
	for _, a := range bytes {
		fields = append(fields, a)
		for _, b := range bytes {
			fields = append(fields, a+b)
			for _, c := range bytes {
				fields = append(fields, a+b+c, a+b+c+"1", a+b+c+"/", a+b+c+"01")
			}
		}
	}
	for _, field := range fields {
		if f, e := modelRead(t, field); e == api.OK {
			wantRead(t, field, f)
		} else {
			wantUnread(t, field)
		}
	}
}

// 8.3: every sort, and numbers that are none.
func TestKindOf(t *testing.T) {
	bsd := map[int]bool{6: true, 7: true, 8: true}
	for _, far := range []int{0, 1 << 8, 1 << 16, 1 << 32, -1 << 63, 1<<63 - 30} {
		for i := range 30 {
			sort, want := far+i, api.GNU
			if bsd[sort] {
				want = api.BSD
			}
			if kind := names.KindOf(sort); kind != want {
				t.Errorf("KindOf(%d): %d, want %d", sort, kind, want)
			}
		}
	}
	for sort := -30; sort < 0; sort++ {
		if kind := names.KindOf(sort); kind != api.GNU {
			t.Errorf("KindOf(%d): %d", sort, kind)
		}
	}
}
