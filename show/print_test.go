package show_test

import (
	"strings"
	"testing"

	"shelf/api"
	"shelf/show"
)

// 14.3: of no members nothing is told.
func TestPrintOfNone(t *testing.T) {
	for _, verbose := range []bool{false, true} {
		wantPrint(t, nil, verbose, "")
		wantPrint(t, []api.Member{}, verbose, "")
	}
}

// data are bytes of all sorts: with and without newlines, with bytes 0, and no text at all.
func data() []string {
	every := make([]byte, 256)
	for i := range every {
		every[i] = byte(i)
	}
	return []string{"", "hello", "hello\n", "\n", "\n\n\n", "a\nb\r\n", "\x00", "\x00\x00a\x00", "\xff\xfe\xc2", "\x7fELF\x02\x01\x01\x00", "\"a b\"", `\n\x00`, "\n<a.o>\n\n", string(every), strings.Repeat("long\x00", 10000)}
}

// 14.3: data are told as they are.
func TestPrintData(t *testing.T) {
	var list []api.Member
	var quiet, loud strings.Builder
	for _, d := range data() {
		wantPrint(t, members(member("a.o", d)), false, d)
		wantPrint(t, members(member("a.o", d)), true, "\n<a.o>\n\n"+d)
		list = append(list, member("b.o", d))
		quiet.WriteString(d)
		loud.WriteString("\n<b.o>\n\n" + d)
	}
	wantPrint(t, list, false, quiet.String())
	wantPrint(t, list, true, loud.String())
}

// 14.3: the Data count, whatever the Size is.
func TestPrintWithAnotherSize(t *testing.T) {
	for _, size := range numbers() {
		m := member("a.o", "hello")
		m.Size = size
		wantPrint(t, members(m, m), false, "hellohello")
		wantPrint(t, members(m), true, "\n<a.o>\n\nhello")
	}
}

// 14.3: without verbose names are not told, and with it they are quoted where they must be.
func TestPrintNames(t *testing.T) {
	for _, name := range quotedNames() {
		wantPrint(t, members(member(name[0], "hello")), false, "hello")
		wantPrint(t, members(member(name[0], "hello")), true, "\n<"+name[1]+">\n\nhello")
		wantPrint(t, members(member(name[0], ""), member("z", "\x00")), true, "\n<"+name[1]+">\n\n\n<z>\n\n\x00")
	}
}

// 14.3: of as many members as an archive may have, each is told.
func TestPrintOfMany(t *testing.T) {
	list := make([]api.Member, api.MaxMembers)
	for i := range list {
		list[i] = member("a.o", "x")
	}
	if got := show.Print(list, false); got != strings.Repeat("x", len(list)) {
		t.Errorf("%d bytes", len(got))
	}
	if got := show.Print(list, true); got != strings.Repeat("\n<a.o>\n\nx", len(list)) {
		t.Errorf("verbose: %d bytes", len(got))
	}
}
