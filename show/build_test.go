package show_test

import (
	"math"
	"strings"
	"testing"

	"shelf/api"
	"shelf/show"
)

// own is a Meta whose fields all differ.
func own() api.Meta { return api.Meta{Date: 951782400, UID: 1000, GID: 100, Mode: 0o644} }

// member is one whose Size goes with its Data.
func member(name, data string) api.Member {
	return api.Member{Meta: own(), Name: name, Size: len(data), Data: data}
}

func members(all ...api.Member) []api.Member { return all }

// event is an event of one letter.
func event(what byte, name string) api.Event { return api.Event{What: what, Name: name} }

func events(all ...api.Event) []api.Event { return all }

// quotedNames are names, and what each is told as.
func quotedNames() [][2]string {
	return [][2]string{
		{"a.o", `a.o`},
		{"naïve.o", `naïve.o`},
		{"\ufffd", "\ufffd"},
		{"a:b", `a:b`},
		{"<a>", `<a>`},
		{"-", `-`},
		{"", `""`},
		{" ", `" "`},
		{"a b", `"a b"`},
		{" a.o ", `" a.o "`},
		{"\n", `"\n"`},
		{"x\n", `"x\n"`},
		{"a\tb", `"a\tb"`},
		{"a\"b", `"a\"b"`},
		{`a\b`, `"a\\b"`},
		{`a\n`, `"a\\n"`},
		{"\x00", `"\x00"`},
		{"\x7f", `"\x7f"`},
		{"\xff", `"\xff"`},
		{"\xc2\x85", `"\xc2\x85"`},
		{"\xed\xa0\x80", `"\xed\xa0\x80"`},
		{"é\x80 \n", `"é\x80 \n"`},
	}
}

// anyNames are names of all bytes and of the runes that are near those that must be quoted.
func anyNames() []string {
	var names []string
	for _, pair := range quotedNames() {
		names = append(names, pair[0], pair[1])
	}
	for b := range 256 {
		c := string([]byte{byte(b)})
		names = append(names, c, c+c, "a"+c, c+"a", "a"+c+"a", "\xc2"+c, "\xe2\x82"+c, c+"\"", "\""+c, c+"\\", "\\"+c, c+" ", " "+c)
	}
	for _, word := range []string{"ar:", "u - a.o", "<a.o>", ">", "\n\n", ": no error", "a.o\nb.o", "rw-r--r-- 0/0", strings.Repeat("é\n", 300), strings.Repeat("n", 5000)} {
		names = append(names, word)
	}
	return names
}

// numbers are those at which the telling of a number might go wrong.
func numbers() []int {
	return []int{0, 1, 5, 9, 10, 99, 100, 999, 1000, 9999, 10000, 99999, 100000, 123456, 999999, 1000000, 1234567, math.MaxInt32, api.MaxSize, api.MaxDate, api.MaxDate + 1, math.MaxInt,
		-1, -3, -9, -10, -100, -1000, -9999, -10000, -99999, -100000, -999999, math.MinInt32, math.MinInt + 1, math.MinInt}
}

func wantLine(t *testing.T, m api.Member, want string) {
	t.Helper()
	if got := show.Line(m); got != want {
		t.Errorf("Line(%+v) = %q, want %q", m, got, want)
	}
}

func wantList(t *testing.T, list []api.Member, verbose bool, want string) {
	t.Helper()
	if got := show.List(list, verbose); got != want {
		t.Errorf("List(%+v, %v) = %q, want %q", list, verbose, got, want)
	}
}

func wantPrint(t *testing.T, list []api.Member, verbose bool, want string) {
	t.Helper()
	if got := show.Print(list, verbose); got != want {
		t.Errorf("Print(%+v, %v) = %q, want %q", list, verbose, got, want)
	}
}

func wantEvents(t *testing.T, list []api.Event, want string) {
	t.Helper()
	if got := show.Events(list); got != want {
		t.Errorf("Events(%+v) = %q, want %q", list, got, want)
	}
}

func wantMessage(t *testing.T, prog int, name string, code api.Errno, want string) {
	t.Helper()
	if got := show.Message(prog, name, code); got != want {
		t.Errorf("Message(%d, %q, %d) = %q, want %q", prog, name, code, got, want)
	}
}
