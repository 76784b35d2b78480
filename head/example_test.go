package head_test

import (
	"math"
	"strings"
	"testing"

	"shelf/api"
)

// barred is a header told with bars between its fields, and an end.
func barred(t *testing.T, told, tail string) string {
	t.Helper()
	b := strings.ReplaceAll(told, "|", "") + tail
	if len(b) != 60 || strings.Count(told, "|") != 6 {
		t.Fatalf("%q is no header", told)
	}
	return b
}

// The chapter's examples of Parse, row by row.
func TestExamplesOfParse(t *testing.T) {
	hello := api.Head{Meta: api.Meta{Mode: 420}, Name: "hello.c/", Size: 12}
	b := barred(t, "hello.c/        |0           |0     |0     |644     |12        |", end)
	wantParse(t, b, 0, hello)
	wantParse(t, barred(t, "hello.c/        |            |0     |0     |644     |12        |", end), 0, hello)
	wantUnread(t, barred(t, "hello.c/        |0           |0     |0     |648     |12        |", end), 0, api.ErrField)
	wantUnread(t, barred(t, "hello.c/        | 0          |0     |0     |644     |12        |", end), 0, api.ErrField)
	wantUnread(t, barred(t, "hello.c/        |-1          |0     |0     |644     |12        |", end), 0, api.ErrField)
	wantUnread(t, barred(t, "hello.c/        |0           |0     |0     |644     |12        |", "\n\n"), 0, api.ErrTail)
	wantUnread(t, barred(t, "hello.c/        |0           |0     |0     |8       |12        |", "\n\n"), 0, api.ErrTail)
	wantUnread(t, b[:59], 0, api.ErrShort)
	wantUnread(t, b, 1, api.ErrShort)
	wantUnread(t, b, -1, api.ErrShort)
	wantUnread(t, b, math.MaxInt, api.ErrShort)
	for _, behind := range []string{"", "x", "\n", b} {
		wantParse(t, "abc"+b+behind, 3, hello)
	}
	hello.Name = ""
	wantParse(t, barred(t, "                |0           |0     |0     |644     |12        |", end), 0, hello)
	hello.Name = " a b"
	wantParse(t, barred(t, " a b            |0           |0     |0     |644     |12        |", end), 0, hello)
}

// The chapter's examples of Format, row by row.
func TestExamplesOfFormat(t *testing.T) {
	wantFormat(t, api.Head{Name: "/"}, barred(t, "/               |0           |0     |0     |0       |0         |", end))
	wantUnwritten(t, api.Head{Name: "12345678901234567"}, api.ErrName)
	wantUnwritten(t, api.Head{Name: "a "}, api.ErrName)
	wantUnwritten(t, api.Head{Name: " "}, api.ErrName)
	wantUnwritten(t, api.Head{Meta: api.Meta{UID: 1000000}}, api.ErrWide)
	wantUnwritten(t, api.Head{Meta: api.Meta{Date: -1}}, api.ErrWide)
	wantUnwritten(t, api.Head{Meta: api.Meta{Mode: 16777216}}, api.ErrWide)
	wantUnwritten(t, api.Head{Size: 10000000000}, api.ErrWide)
	wantUnwritten(t, api.Head{Meta: api.Meta{Date: -1}, Name: "a "}, api.ErrName)
}
