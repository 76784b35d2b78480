package names_test

import (
	"fmt"
	"math/rand"
	"regexp"
	"strconv"
	"strings"
	"testing"

	"shelf/api"
	"shelf/names"
)

// form is a line of the table of sorts as an expression; what stands in its brackets is the name or the number.
type form struct {
	sort int
	like *regexp.Regexp
}

var forms = []form{
	{api.FieldIndex, regexp.MustCompile(`\A/\z`)},
	{api.FieldIndex64, regexp.MustCompile(`\A/SYM64/\z`)},
	{api.FieldTable, regexp.MustCompile(`\A//\z`)},
	{api.FieldShort, regexp.MustCompile(`(?s)\A([^/\x00]+)/\z`)},
	{api.FieldRef, regexp.MustCompile(`\A/([0-9]{1,15})\z`)},
	{api.FieldPlain, regexp.MustCompile(`(?s)\A([^/\x00]+)\z`)},
	{api.FieldLong, regexp.MustCompile(`\A#1/([0-9]{1,13})\z`)},
	{api.FieldSymdef, regexp.MustCompile(`\A__\.SYMDEF\z`)},
}

// modelRead is the table of sorts by other means; a field of two forms ends the test.
func modelRead(t *testing.T, field string) (f api.Field, e api.Errno) {
	t.Helper()
	e = api.ErrName
	if len(field) > 16 {
		return f, e
	}
	for _, form := range forms {
		got := form.like.FindStringSubmatch(field)
		if got == nil || form.sort == api.FieldPlain && field == "__.SYMDEF" {
			continue
		}
		if e == api.OK {
			t.Fatalf("the field %q has two forms", field)
		}
		f, e = api.Field{Sort: form.sort}, api.OK
		switch form.sort {
		case api.FieldShort, api.FieldPlain:
			f.Name = got[1]
		case api.FieldRef, api.FieldLong:
			f.Num, _ = strconv.Atoi(got[1])
		}
	}
	return f, e
}

// modelValid: is the name valid, by a walk over its bytes?
func modelValid(name string) bool {
	for i := range len(name) {
		if name[i] == '/' || name[i] == 0 {
			return false
		}
	}
	return len(name) > 0
}

// modelEncode is 8.4's words by other means.
func modelEncode(kind api.Kind, list []string) (n api.Names, e api.Errno) {
	if kind < 0 || kind > 2 {
		return n, api.ErrRange
	}
	for _, name := range list {
		if !modelValid(name) {
			return api.Names{}, api.ErrName
		}
		field, inline := "/"+strconv.Itoa(len(n.Table)), ""
		switch {
		case kind == 2 && (len(name) > 16 || strings.Count(name, " ") > 0 || name == "__.SYMDEF"):
			field, inline = "#1/"+strconv.Itoa(len(name)), name
		case kind == 2:
			field = name
		case kind == 0 && len(name) < 16:
			field = name + "/"
		default:
			n.Table += name + "/\n"
		}
		n.Fields, n.Inline = append(n.Fields, field), append(n.Inline, inline)
	}
	return n, api.OK
}

// modelLook walks from off on, byte by byte.
func modelLook(table string, off int) (string, api.Errno) {
	for i := off; i >= 0 && i+1 < len(table); i++ {
		if table[i] != '/' || table[i+1] != '\n' {
			continue
		}
		if name := table[off:i]; modelValid(name) {
			return name, api.OK
		}
		return "", api.ErrName
	}
	return "", api.ErrTable
}

// modelInline takes the bytes 0 away one by one.
func modelInline(data string, n int) (string, string, api.Errno) {
	if n < 0 || n > len(data) {
		return "", "", api.ErrName
	}
	end := n
	for end > 0 && data[end-1] == 0 {
		end--
	}
	if !modelValid(data[:end]) {
		return "", "", api.ErrName
	}
	return data[:end], data[n:], api.OK
}

// pick is one of the texts, by chance.
func pick(r *rand.Rand, of ...string) string { return of[r.Intn(len(of))] }

// chanceText is up to most pieces of those that make a difference.
func chanceText(r *rand.Rand, most int) string {
	var s string
	for range r.Intn(most + 1) {
		s += pick(r, "a", "b", ".o", "1", "0", "9", "23", " ", "\n", "_", "#", "\x80", "\xff")
	}
	if r.Intn(8) == 0 {
		s += pick(r, "/", "\x00", "/\n", "\x00\x00", "/", "#1/")
	}
	return s
}

// chanceField is a field that often has a form, or nearly one.
func chanceField(r *rand.Rand) string {
	digits := fmt.Sprintf("%019d", r.Int63())[:1+r.Intn(17)]
	field := pick(r, "/", "//", "/SYM64/", "__.SYMDEF", "/"+digits, "#1/"+digits, chanceText(r, 17), chanceText(r, 12)+"/")
	switch r.Intn(6) {
	case 0:
		return field + pick(r, " ", "/", "1", "\x00", "x")
	case 1:
		at := r.Intn(len(field) + 1)
		return field[:at] + pick(r, " ", "/", "1", "\x00", "x") + field[at:]
	}
	return field
}

// 8.2: chance fields against the chapter's words.
func TestChanceFields(t *testing.T) {
	r := rand.New(rand.NewSource(88))
	seen := map[int]int{}
	for range 100000 {
		field := chanceField(r)
		want, e := modelRead(t, field)
		if got, gotE := names.Read(field); got != want || gotE != e {
			t.Fatalf("Read(%q): %+v, %d, want %+v, %d", field, got, gotE, want, e)
		}
		seen[want.Sort]++
	}
	for sort := range 9 { // 0: a refusal
		if seen[sort] < 500 {
			t.Errorf("sort %d came up %d times", sort, seen[sort])
		}
	}
}

// 8.4, 8.5: chance lists against the chapter's words.
func TestChanceLists(t *testing.T) {
	r := rand.New(rand.NewSource(84))
	seen := map[api.Errno]int{}
	for range 30000 {
		kind, list := api.Kind(r.Intn(7)-1)%4, make([]string, r.Intn(5))
		for i := range list {
			list[i] = pick(r, "__.SYMDEF", chanceText(r, 4), chanceText(r, 22), letters(13+r.Intn(6)), "name"+chanceText(r, 9))
		}
		want, e := modelEncode(kind, list)
		if got, gotE := names.Encode(kind, list); !sameNames(got, want) || gotE != e {
			t.Fatalf("Encode(%d, %q): %q, %d, want %q, %d", kind, list, got, gotE, want, e)
		}
		if seen[e]++; e == api.OK {
			wantBack(t, kind, list)
		}
	}
	wantSeen(t, seen, api.OK, api.ErrName, api.ErrRange)
}

// 8.6: chance tables against the chapter's words.
func TestChanceTables(t *testing.T) {
	r := rand.New(rand.NewSource(86))
	seen := map[api.Errno]int{}
	for range 100000 {
		var table string
		for range r.Intn(4) {
			table += chanceText(r, 8) + pick(r, "/\n", "/\n", "/", "\n")
		}
		off := r.Intn(len(table)+4) - 2
		want, e := modelLook(table, off)
		wantLook(t, table, off, want, e)
		seen[e]++
	}
	wantSeen(t, seen, api.OK, api.ErrName, api.ErrTable)
}

// 8.7: chance data against the chapter's words.
func TestChanceData(t *testing.T) {
	r := rand.New(rand.NewSource(87))
	seen := map[api.Errno]int{}
	for range 100000 {
		data := chanceText(r, 8) + pick(r, "", "\x00", "\x00\x00\x00") + chanceText(r, 8)
		n := r.Intn(len(data)+4) - 2
		name, rest, e := modelInline(data, n)
		if e == api.OK {
			wantInline(t, data, n, name, rest)
		} else {
			wantNoInline(t, data, n)
		}
		seen[e]++
	}
	wantSeen(t, seen, api.OK, api.ErrName)
}

// wantSeen wants that chance has led to each of the answers often enough to tell something, and to no other.
func wantSeen(t *testing.T, seen map[api.Errno]int, all ...api.Errno) {
	t.Helper()
	for _, e := range all {
		if seen[e] < 500 {
			t.Errorf("answer %d came up %d times", e, seen[e])
		}
		delete(seen, e)
	}
	if len(seen) > 0 {
		t.Errorf("answers of no promise: %v", seen)
	}
}
