package names_test

import (
	"math"
	"strconv"
	"strings"
	"testing"

	"shelf/api"
	"shelf/names"
)

// one is how a single name stands.
func one(field, inline, table string) api.Names {
	return api.Names{Fields: []string{field}, Inline: []string{inline}, Table: table}
}

// 8.4: names of every length, in each kind.
func TestEncodeByLengths(t *testing.T) {
	for length := 1; length <= 120; length++ {
		name := letters(length)
		entry := name + "/\n"
		gnu, bsd := one("/0", "", entry), one("#1/"+strconv.Itoa(length), name, "")
		if length <= 15 {
			gnu = one(name+"/", "", "")
		}
		if length <= 16 {
			bsd = one(name, "", "")
		}
		wantEncode(t, api.GNU, []string{name}, gnu)
		wantEncode(t, api.Thin, []string{name}, one("/0", "", entry))
		wantEncode(t, api.BSD, []string{name}, bsd)
	}
}

// 8.4: names of 14 to 17 bytes with every byte at every place.
func TestEncodeOddBytes(t *testing.T) {
	for length := 14; length <= 17; length++ {
		for at := range length {
			for c := range 256 {
				name := setByte(letters(length), at, byte(c))
				if c == 0 || c == '/' {
					for _, kind := range kinds() {
						wantUnwritten(t, kind, []string{name}, api.ErrName)
					}
					continue
				}
				gnu, bsd := one(name+"/", "", ""), one(name, "", "")
				if length > 15 {
					gnu = one("/0", "", name+"/\n")
				}
				if length > 16 || c == ' ' {
					bsd = one("#1/"+strconv.Itoa(length), name, "")
				}
				wantEncode(t, api.GNU, []string{name}, gnu)
				wantEncode(t, api.Thin, []string{name}, one("/0", "", name+"/\n"))
				wantEncode(t, api.BSD, []string{name}, bsd)
			}
		}
	}
}

// 8.4: names that look like fields stand as any other name does.
func TestEncodeNamesLikeFields(t *testing.T) {
	wantEncode(t, api.GNU, []string{"__.SYMDEF", "__.SYMDEF SORTED", "#1", " ", "a ", "\n"}, api.Names{
		Fields: []string{"__.SYMDEF/", "/0", "#1/", " /", "a /", "\n/"},
		Inline: make([]string, 6),
		Table:  "__.SYMDEF SORTED/\n",
	})
	wantEncode(t, api.BSD, []string{"__.SYMDEF", "__.SYMDEF SORTED", "__.SYMDEFS", "#1", "18", " ", "a ", " a", "\n", "SYM64"}, api.Names{
		Fields: []string{"#1/9", "#1/16", "__.SYMDEFS", "#1", "18", "#1/1", "#1/2", "#1/2", "\n", "SYM64"},
		Inline: []string{"__.SYMDEF", "__.SYMDEF SORTED", "", "", "", " ", "a ", " a", "", ""},
	})
}

// 8.4: each name's place in the table is behind what is there already, equal ones and odd ones too.
func TestEncodePlaces(t *testing.T) {
	list := []string{letters(16), "a", letters(16), "\n\n\n\n\n\n\n\n\n\n\n\n\n\n\n\n", letters(100), "b"}
	wantEncode(t, api.GNU, list, api.Names{
		Fields: []string{"/0", "a/", "/18", "/36", "/54", "b/"},
		Inline: make([]string, 6),
		Table:  letters(16) + "/\n" + letters(16) + "/\n" + strings.Repeat("\n", 16) + "/\n" + letters(100) + "/\n",
	})
	wantEncode(t, api.Thin, list, api.Names{
		Fields: []string{"/0", "/18", "/21", "/39", "/57", "/159"},
		Inline: make([]string, 6),
		Table:  letters(16) + "/\na/\n" + letters(16) + "/\n" + strings.Repeat("\n", 16) + "/\n" + letters(100) + "/\nb/\n",
	})
}

// 8.4: two equal names have two entries, of every kind that has a table.
func TestEncodeEqualNames(t *testing.T) {
	for range 2 {
		wantEncode(t, api.GNU, []string{"a", "a"}, api.Names{Fields: []string{"a/", "a/"}, Inline: make([]string, 2)})
		wantEncode(t, api.Thin, []string{"a", "a"}, api.Names{Fields: []string{"/0", "/3"}, Inline: make([]string, 2), Table: "a/\na/\n"})
		wantEncode(t, api.BSD, []string{"a b", "a b"}, api.Names{Fields: []string{"#1/3", "#1/3"}, Inline: []string{"a b", "a b"}})
		wantEncode(t, api.GNU, []string{letters(20), letters(20)}, api.Names{Fields: []string{"/0", "/22"}, Inline: make([]string, 2), Table: letters(20) + "/\n" + letters(20) + "/\n"})
	}
}

// 8.4: the list without a name.
func TestEncodeNothing(t *testing.T) {
	for _, kind := range kinds() {
		wantEncode(t, kind, nil, api.Names{})
		wantEncode(t, kind, []string{}, api.Names{})
	}
}

// 8.4: a kind that is none is refused ahead of the names.
func TestEncodeNoKind(t *testing.T) {
	for _, kind := range []api.Kind{-1, -2, -3, 3, 4, 5, 256, 257, 258, 1 << 32, 1<<32 + 1, math.MaxInt, math.MinInt} {
		for _, list := range [][]string{nil, {"a"}, {"a/b"}, {""}, {"a", "\x00"}} {
			wantUnwritten(t, kind, list, api.ErrRange)
		}
	}
}

// 8.4: a name that is not valid is refused wherever it stands in the list, with nothing of the names ahead of it.
func TestEncodeNoNames(t *testing.T) {
	for _, kind := range kinds() {
		for _, bad := range []string{"", "/", "a/b", "a/", "/a", "\x00", "a\x00", letters(30) + "/", "//", "#1/3", "/SYM64/"} {
			for length := 1; length < 5; length++ {
				for at := range length {
					list := []string{"a", letters(17), "a b", "__.SYMDEF"}[:length]
					list[at] = bad
					wantUnwritten(t, kind, list, api.ErrName)
				}
			}
		}
	}
}

// R4: no two answers and no two lists of one share memory, spare room included, and none shares it with the list.
func TestEncodeNewMemory(t *testing.T) {
	for _, kind := range kinds() {
		room := []string{"a b", letters(17), "c", "spare"}
		list := room[:3]
		first, _ := names.Encode(kind, list)
		second, _ := names.Encode(kind, list)
		want, _ := names.Encode(kind, list)
		for _, mine := range [][]string{first.Fields, first.Inline} {
			for i := range mine[:cap(mine)] {
				mine[:cap(mine)][i] = "changed"
			}
			if !sameNames(second, want) || list[0] != "a b" || list[1] != letters(17) || list[2] != "c" || room[3] != "spare" {
				t.Fatalf("kind %d: %q, %q, %q", kind, second, list, room)
			}
		}
		third, _ := names.Encode(kind, list)
		clear(third.Fields[:cap(third.Fields)])
		for i, inline := range third.Inline {
			if inline != want.Inline[i] {
				t.Errorf("kind %d: the two lists of one answer share memory: %q", kind, third)
			}
		}
		for i := range list {
			list[i] = "other"
		}
		if !sameNames(second, want) {
			t.Errorf("kind %d: %q", kind, second)
		}
	}
}

// wantBack wants 8.5 of a list: of each field, the table and the text ahead the name again.
func wantBack(t *testing.T, kind api.Kind, list []string) {
	t.Helper()
	n, e := names.Encode(kind, list)
	if e != api.OK || len(n.Fields) != len(list) || len(n.Inline) != len(list) {
		t.Fatalf("Encode(%d, %d names): %d fields, %d texts ahead, %d", kind, len(list), len(n.Fields), len(n.Inline), e)
	}
	for i, name := range list {
		field := n.Fields[i]
		if field == "" || len(field) > 16 || strings.HasSuffix(field, " ") {
			t.Errorf("kind %d: the name %.60q has the field %q", kind, name, field)
		}
		f, e := names.Read(field)
		if e != api.OK || (names.KindOf(f.Sort) == api.BSD) != (kind == api.BSD) {
			t.Errorf("kind %d: Read(%q): %+v, %d", kind, field, f, e)
		}
		switch f.Sort {
		case api.FieldShort, api.FieldPlain:
			if f.Name != name || n.Inline[i] != "" {
				t.Errorf("kind %d: the name %.60q has %+v, inline %.60q", kind, name, f, n.Inline[i])
			}
		case api.FieldRef:
			wantLook(t, n.Table, f.Num, name, api.OK)
		case api.FieldLong:
			wantInline(t, n.Inline[i]+"\x00data", f.Num, name, "\x00data")
		default:
			t.Errorf("kind %d: the name %.60q has the field %q", kind, name, field)
		}
	}
}

// 8.5: there and back, every kind, names of every length with odd bytes at each place.
func TestThereAndBack(t *testing.T) {
	for _, kind := range kinds() {
		var all []string
		for length := 1; length <= 40; length++ {
			for _, odd := range oddBytes() {
				for at := range length {
					all = append(all, setByte(letters(length), at, odd[0]))
				}
				all = append(all, strings.Repeat(odd, length))
			}
		}
		wantBack(t, kind, append(all, "__.SYMDEF", "__.SYMDEF SORTED", "#1", "SYM64", "\n\n", "a\n", "\na"))
	}
}

// 8.4, 8.5: a table with places of many digits.
func TestLongTable(t *testing.T) {
	list := make([]string, 300)
	for i := range list {
		list[i] = strings.Repeat("n", 5000) + strconv.Itoa(i)
	}
	for _, kind := range kinds() {
		wantBack(t, kind, list)
	}
	n, _ := names.Encode(api.GNU, list)
	if want := "/" + strconv.Itoa(len(n.Table)-5005); n.Fields[299] != want || len(n.Table) != 300*5002+10+2*90+3*200 {
		t.Errorf("the last field is %q, want %q, in a table of %d bytes", n.Fields[299], want, len(n.Table))
	}
}
