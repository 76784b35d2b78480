package names_test

import (
	"testing"

	"shelf/api"
)

// The chapter's examples of Read, row by row.
func TestExamplesOfRead(t *testing.T) {
	wantRead(t, "/", api.Field{Sort: api.FieldIndex})
	wantRead(t, "//", api.Field{Sort: api.FieldTable})
	wantRead(t, "/SYM64/", api.Field{Sort: api.FieldIndex64})
	wantRead(t, "a.o/", api.Field{Sort: api.FieldShort, Name: "a.o"})
	wantRead(t, "a.o", api.Field{Sort: api.FieldPlain, Name: "a.o"})
	wantRead(t, "/18", api.Field{Sort: api.FieldRef, Num: 18})
	wantRead(t, "#1/20", api.Field{Sort: api.FieldLong, Num: 20})
	wantRead(t, "#1/", api.Field{Sort: api.FieldShort, Name: "#1"})
	wantRead(t, "__.SYMDEF", api.Field{Sort: api.FieldSymdef})
	wantRead(t, "__.SYMDEF/", api.Field{Sort: api.FieldShort, Name: "__.SYMDEF"})
	wantUnread(t, "", "/x", "a/b", "/SYM64", "#1/x", "#2/3")
	wantRead(t, "123456789012345/", api.Field{Sort: api.FieldShort, Name: "123456789012345"})
	wantUnread(t, "/1234567890123456")
}

// The chapter's examples of Encode, row by row.
func TestExamplesOfEncode(t *testing.T) {
	wantEncode(t, api.GNU, []string{"a.o", "seventeen.bytes.o", "another.long.name"}, api.Names{
		Fields: []string{"a.o/", "/0", "/19"},
		Inline: make([]string, 3),
		Table:  "seventeen.bytes.o/\nanother.long.name/\n",
	})
	wantEncode(t, api.Thin, []string{"a.o", "a.o"}, api.Names{Fields: []string{"/0", "/5"}, Inline: make([]string, 2), Table: "a.o/\na.o/\n"})
	wantEncode(t, api.BSD, []string{"a.o", "a b", "__.SYMDEF"}, api.Names{
		Fields: []string{"a.o", "#1/3", "#1/9"},
		Inline: []string{"", "a b", "__.SYMDEF"},
	})
	wantEncode(t, api.BSD, []string{"exactly.16.bytes"}, one("exactly.16.bytes", "", ""))
	wantEncode(t, api.GNU, []string{"exactly.16.bytes"}, one("/0", "", "exactly.16.bytes/\n"))
	wantUnwritten(t, api.GNU, []string{"a/b"}, api.ErrName)
	wantUnwritten(t, 3, nil, api.ErrRange)
}

// The chapter's examples of Look, row by row.
func TestExamplesOfLook(t *testing.T) {
	table := "a.o/\nb.o/\n"
	wantLook(t, table, 5, "b.o", api.OK)
	wantLook(t, table, 0, "a.o", api.OK)
	wantLook(t, table, 1, ".o", api.OK)
	wantLook(t, table, 3, "", api.ErrName)
	wantLook(t, table, 4, "\nb.o", api.OK)
	wantLook(t, table, 10, "", api.ErrTable)
	wantLook(t, table, -1, "", api.ErrTable)
	wantLook(t, "a/b/\n", 0, "", api.ErrName)
	wantLook(t, "a.o/", 0, "", api.ErrTable)
	wantLook(t, "seventeen.bytes.o/\n", 10, "bytes.o", api.OK)
}

// The chapter's examples of Inline, row by row.
func TestExamplesOfInline(t *testing.T) {
	wantInline(t, "a b\x00\x00xyz", 5, "a b", "xyz")
	wantNoInline(t, "abc", 4)
	wantNoInline(t, "abc", 0)
	wantNoInline(t, "a/c", 3)
	wantInline(t, "abc", 3, "abc", "")
}
