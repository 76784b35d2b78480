package names_test

import (
	"math"
	"strings"
	"testing"

	"shelf/api"
)

// 8.6: every place of a table, at its names and between them.
func TestLookEverywhere(t *testing.T) {
	table := "a.o/\nseventeen.bytes.o/\nx/\n"
	for off := range len(table) {
		rest := table[off:]
		end := strings.Index(rest, "/\n")
		switch {
		case end < 0:
			wantLook(t, table, off, "", api.ErrTable)
		case end == 0:
			wantLook(t, table, off, "", api.ErrName)
		default:
			wantLook(t, table, off, rest[:end], api.OK)
		}
	}
	wantLook(t, table, 15, "bytes.o", api.OK)
	wantLook(t, table, 4, "\nseventeen.bytes.o", api.OK)
	wantLook(t, table, 22, "", api.ErrName)
	wantLook(t, table, len(table)-2, "", api.ErrName)
	wantLook(t, table, len(table)-1, "", api.ErrTable)
}

// 8.6: places below 0, at the table's end and behind it.
func TestLookOutside(t *testing.T) {
	for _, table := range []string{"", "/\n", "a.o/\n", "a/b", letters(100) + "/\n"} {
		for i := range 100 {
			wantLook(t, table, -1-i, "", api.ErrTable)
			wantLook(t, table, len(table)+i, "", api.ErrTable)
			wantLook(t, table, math.MinInt+i, "", api.ErrTable)
			wantLook(t, table, math.MaxInt-i, "", api.ErrTable)
		}
	}
}

// 8.6: the two bytes must stand one behind the other, from off on.
func TestLookEnds(t *testing.T) {
	for _, table := range []string{"a", "a.o/", "a.o\n", "a.o\n/", "a.o/ \n", "a.o/\r\n", "/", "\n", "a/b\n", "a/\x00\n", "\n/", "a\\n"} {
		wantLook(t, table, 0, "", api.ErrTable)
	}
	wantLook(t, "a/\n", 2, "", api.ErrTable)          // the newline alone is left
	wantLook(t, "a/\nb/\n", 2, "\nb", api.OK)         // the slash ahead of off does not count
	wantLook(t, "a.o/\nb.o", 0, "a.o", api.OK)        // what stands behind need not be a name
	wantLook(t, "a.o/\n/\n\x00", 0, "a.o", api.OK)    // the first two bytes count
	wantLook(t, "a.o/\nb/\n", 0, "a.o", api.OK)       // not the last ones
	wantLook(t, "a\n\n/\n", 0, "a\n\n", api.OK)       // newlines are of the name
	wantLook(t, " a b /\n", 0, " a b ", api.OK)       // and so are blanks
	wantLook(t, "\xff\x80/\n", 0, "\xff\x80", api.OK) // and bytes above 127
}

// 8.6: bytes that are no valid name; a table that does not end goes ahead of them.
func TestLookNoNames(t *testing.T) {
	for _, table := range []string{"/\n", "a/b/\n", "a//\n", "//\n", "/a/\n", "\x00/\n", "a\x00/\n", "\x00a/\n", "a/\x00/\n"} {
		wantLook(t, table, 0, "", api.ErrName)
		wantLook(t, table[:len(table)-2], 0, "", api.ErrTable)
		wantLook(t, table+"b/\n", 0, "", api.ErrName)
	}
}

// 8.6: every byte in a name of the table.
func TestLookEveryByte(t *testing.T) {
	for c := range 256 {
		for length := 1; length <= 20; length++ {
			for at := range length {
				name := setByte(letters(length), at, byte(c))
				if c == 0 || c == '/' {
					wantLook(t, name+"/\n", 0, "", api.ErrName)
				} else {
					wantLook(t, name+"/\n", 0, name, api.OK)
				}
			}
		}
	}
}

// 8.7: the name is all of the n bytes but those 0 at their end, the rest all that stands behind.
func TestInlineParts(t *testing.T) {
	for length := 1; length <= 20; length++ {
		for zeros := range 20 {
			for _, rest := range []string{"", "x", "\x00", "\x00\x00x", "/", " ", letters(30)} {
				name := letters(length)
				wantInline(t, name+strings.Repeat("\x00", zeros)+rest, length+zeros, name, rest)
				if zeros > 0 {
					wantInline(t, name+strings.Repeat("\x00", zeros)+rest, length, name, strings.Repeat("\x00", zeros)+rest)
				}
			}
		}
	}
	for n := 1; n <= 40; n++ {
		wantInline(t, letters(40), n, letters(40)[:n], letters(40)[n:])
	}
}

// 8.7: an n that data have no bytes for.
func TestInlineOutside(t *testing.T) {
	for _, data := range []string{"", "a", "abc", letters(100)} {
		for i := range 100 {
			wantNoInline(t, data, -1-i)
			wantNoInline(t, data, len(data)+1+i)
			wantNoInline(t, data, math.MinInt+i)
			wantNoInline(t, data, math.MaxInt-i)
		}
		wantNoInline(t, data, 0)
	}
}

// 8.7: bytes that are no valid name: a 0 counts nothing at the end alone.
func TestInlineNoNames(t *testing.T) {
	for _, bytes := range []string{"\x00", "\x00\x00\x00", "/", "a/c", "a/", "/a", "\x00a", "a\x00b", "a\x00b\x00", "/\x00", "a/\x00\x00", "\x00 "} {
		wantNoInline(t, bytes, len(bytes))
		wantNoInline(t, bytes+"data", len(bytes))
		wantNoInline(t, bytes+"\x00", len(bytes)+1)
	}
}

// 8.7: every byte in the name.
func TestInlineEveryByte(t *testing.T) {
	for c := range 256 {
		for length := 1; length <= 20; length++ {
			for at := range length {
				name := setByte(letters(length), at, byte(c))
				switch {
				case c == '/' || c == 0 && (at < length-1 || length == 1):
					wantNoInline(t, name+"rest", length)
				case c == 0:
					wantInline(t, name+"rest", length, name[:at], "rest")
				default:
					wantInline(t, name+"rest", length, name, "rest")
				}
			}
		}
	}
	for _, name := range []string{" ", "a ", " a", "\n", "a\n", "\t", "a\xff", "\xc2", "__.SYMDEF", "#1", "ä"} {
		wantInline(t, name+"\x00\x00rest", len(name)+2, name, "rest")
	}
}
