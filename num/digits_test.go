package num_test

import (
	"math"
	"strconv"
	"strings"
	"testing"

	"shelf/api"
	"shelf/num"
)

type reader func(string) (int, api.Errno)

type writer func(v, width int) (string, api.Errno)

// wantRead asks read for each field and wants the number n and the Errno e.
func wantRead(t *testing.T, read reader, n int, e api.Errno, fields ...string) {
	t.Helper()
	for _, field := range fields {
		if gotN, gotE := read(field); gotN != n || gotE != e {
			t.Errorf("read %q: %d, %d, want %d, %d", field, gotN, gotE, n, e)
		}
	}
}

// wantWrite asks write for v at width and wants the field and the Errno e.
func wantWrite(t *testing.T, write writer, v, width int, field string, e api.Errno) {
	t.Helper()
	if gotField, gotE := write(v, width); gotField != field || gotE != e {
		t.Errorf("write %d at %d: %q, %d, want %q, %d", v, width, gotField, gotE, field, e)
	}
}

// 1.1: digits, then blanks.
func TestFormOfDecimalFields(t *testing.T) {
	wantRead(t, num.Dec, 0, api.OK, "", " ", strings.Repeat(" ", 50))
	wantRead(t, num.Dec, 9876543210, api.OK, "9876543210", "9876543210 ", "9876543210"+strings.Repeat(" ", 50))
	wantRead(t, num.Dec, 0, api.ErrDigit, " 12", "1 2", "  1  ", "12 3 ", "+1", "-1", "1-", "1_000", "1.0", "0x1", "1e3")
}

// 1.1: any other byte is refused wherever it stands.
func TestForeignBytesInDecimalFields(t *testing.T) {
	for c := range 256 {
		if c >= '0' && c <= '9' || c == ' ' {
			continue
		}
		b := string([]byte{byte(c)})
		wantRead(t, num.Dec, 0, api.ErrDigit, b, b+"1", "1"+b, "1"+b+"2", "1 "+b, b+" ", " "+b, "0"+b+" ")
	}
}

// 1.2: what the digits say, up to the greatest int.
func TestNumbersOfDecimalFields(t *testing.T) {
	wantRead(t, num.Dec, 0, api.OK, "0", "00", "0  ", strings.Repeat("0", 100))
	wantRead(t, num.Dec, 120, api.OK, "120", "0120", strings.Repeat("0", 100)+"120  ")
	wantRead(t, num.Dec, math.MaxInt-1, api.OK, "9223372036854775806")
	wantRead(t, num.Dec, math.MaxInt, api.OK, "9223372036854775807", "00009223372036854775807  ")
	wantRead(t, num.Dec, 0, api.ErrWide,
		"9223372036854775808", "9223372036854775809", "9223372036854775810", "9223372036854775817",
		"10000000000000000000", "18446744073709551615", "18446744073709551616", "18446744073709551617",
		"36893488147419103233 ", "0009223372036854775808", strings.Repeat("9", 100))
	for _, n := range []int{1, 9, 10, 99, 100, 644, 1<<31 - 1, 1 << 32, 999999999999, math.MaxInt / 10} {
		wantRead(t, num.Dec, n, api.OK, strconv.Itoa(n), "00"+strconv.Itoa(n)+" ")
	}
}

// 1.2: ErrDigit goes ahead of ErrWide.
func TestFormGoesAheadOfWidth(t *testing.T) {
	wide := strings.Repeat("7", 30)
	for _, read := range []reader{num.Dec, num.Oct} {
		wantRead(t, read, 0, api.ErrWide, wide, wide+"  ")
		wantRead(t, read, 0, api.ErrDigit, wide+"x", wide+" x", wide+" 7", " "+wide, "-"+wide, wide+"\x00")
	}
	wantRead(t, num.Oct, 0, api.ErrDigit, wide+"8", wide+" 9")
}

// 1.3: the same in octal.
func TestOctalFields(t *testing.T) {
	wantRead(t, num.Oct, 0, api.OK, "", "   ", "0", "000  ")
	wantRead(t, num.Oct, 8, api.OK, "10", "010", "10    ", strings.Repeat("0", 100)+"10")
	wantRead(t, num.Oct, 0o1234567, api.OK, "1234567")
	wantRead(t, num.Oct, math.MaxInt, api.OK, "777777777777777777777", "0777777777777777777777 ")
	wantRead(t, num.Oct, 0, api.ErrWide, "1000000000000000000000", "1777777777777777777777", "2000000000000000000000", strings.Repeat("7", 22), strings.Repeat("1", 100))
	wantRead(t, num.Oct, 0, api.ErrDigit, " 7", "1 7", "0o7", "+7", "-7", "  7  ")
	for c := range 256 {
		if c >= '0' && c <= '7' || c == ' ' {
			continue
		}
		b := string([]byte{byte(c)})
		wantRead(t, num.Oct, 0, api.ErrDigit, b, b+"1", "1"+b, "1 "+b, b+" ")
	}
}

// 1.4: digits without zeros ahead, then blanks.
func TestPutDec(t *testing.T) {
	wantWrite(t, num.PutDec, 0, 1, "0", api.OK)
	wantWrite(t, num.PutDec, 0, 20, "0                   ", api.OK)
	wantWrite(t, num.PutDec, 9, 1, "9", api.OK)
	wantWrite(t, num.PutDec, 10, 2, "10", api.OK)
	wantWrite(t, num.PutDec, 1000, 6, "1000  ", api.OK)
	wantWrite(t, num.PutDec, 9999999999, 10, "9999999999", api.OK)
	wantWrite(t, num.PutDec, math.MaxInt, 19, "9223372036854775807", api.OK)
	wantWrite(t, num.PutDec, 10, 1, "", api.ErrWide)
	wantWrite(t, num.PutDec, 10000000000, 10, "", api.ErrWide)
	wantWrite(t, num.PutDec, math.MaxInt, 18, "", api.ErrWide)
}

// 1.5: the same in octal.
func TestPutOct(t *testing.T) {
	wantWrite(t, num.PutOct, 0, 1, "0", api.OK)
	wantWrite(t, num.PutOct, 0, 3, "0  ", api.OK)
	wantWrite(t, num.PutOct, 7, 1, "7", api.OK)
	wantWrite(t, num.PutOct, 8, 2, "10", api.OK)
	wantWrite(t, num.PutOct, 0o100644, 8, "100644  ", api.OK)
	wantWrite(t, num.PutOct, 0o77777777, 8, "77777777", api.OK)
	wantWrite(t, num.PutOct, 1<<60-1, 20, strings.Repeat("7", 20), api.OK)
	wantWrite(t, num.PutOct, 8, 1, "", api.ErrWide)
	wantWrite(t, num.PutOct, 0o100000000, 8, "", api.ErrWide)
	wantWrite(t, num.PutOct, 1<<60, 20, "", api.ErrWide)
	wantWrite(t, num.PutOct, math.MaxInt, 20, "", api.ErrWide)
}

// 1.4, 1.5: the width is looked at first, then the number.
func TestPutRefusals(t *testing.T) {
	for _, write := range []writer{num.PutDec, num.PutOct} {
		for _, v := range []int{math.MinInt, -1, 0, 5, math.MaxInt} {
			for _, width := range []int{math.MinInt, -1, 0, 21, 22, math.MaxInt} {
				wantWrite(t, write, v, width, "", api.ErrRange)
			}
		}
		for width := 1; width <= api.MaxWidth; width++ {
			wantWrite(t, write, -1, width, "", api.ErrWide)
			wantWrite(t, write, math.MinInt, width, "", api.ErrWide)
		}
	}
}

// 1.6: what is written is read.
func TestWrittenFieldsAreRead(t *testing.T) {
	numbers := []int{math.MaxInt}
	for shift := range 63 {
		numbers = append(numbers, 1<<shift, 1<<shift-1, 1<<shift/10*10)
	}
	for _, v := range numbers {
		for width := 1; width <= api.MaxWidth; width++ {
			checkWritten(t, num.Dec, num.PutDec, v, width, strconv.FormatInt(int64(v), 10))
			checkWritten(t, num.Oct, num.PutOct, v, width, strconv.FormatInt(int64(v), 8))
		}
	}
}

func checkWritten(t *testing.T, read reader, write writer, v, width int, digits string) {
	t.Helper()
	if len(digits) > width {
		wantWrite(t, write, v, width, "", api.ErrWide)
		return
	}
	field := digits + strings.Repeat(" ", width-len(digits))
	wantWrite(t, write, v, width, field, api.OK)
	wantRead(t, read, v, api.OK, field)
}

// 1.6: of all short fields of these bytes, those that are read are written again, and as they were if they have no needless zero.
func TestReadFieldsAreWritten(t *testing.T) {
	const letters = "0178 9-"
	fields := []string{""}
	for len(fields[0]) < 4 {
		var longer []string
		for _, field := range fields {
			for _, letter := range letters {
				longer = append(longer, field+string(letter))
			}
		}
		fields = longer
		for _, field := range fields {
			checkRead(t, num.Dec, num.PutDec, field)
			checkRead(t, num.Oct, num.PutOct, field)
		}
	}
	for _, field := range []string{strings.Repeat("0", 20), strings.Repeat(" ", 20), "01000000000000000000", "9223372036854775807 ", "777777777777777777  "} {
		checkRead(t, num.Dec, num.PutDec, field)
		checkRead(t, num.Oct, num.PutOct, field)
	}
}

func checkRead(t *testing.T, read reader, write writer, field string) {
	t.Helper()
	n, e := read(field)
	if e != api.OK {
		return
	}
	again, e := write(n, len(field))
	if e != api.OK {
		t.Errorf("%q is read as %d, which is refused at its length: %d", field, n, e)
	}
	digits := strings.TrimRight(field, " ")
	plain := digits == "0" || digits != "" && digits[0] != '0'
	if plain && again != field {
		t.Errorf("%q is read as %d and written as %q", field, n, again)
	}
	wantRead(t, read, n, api.OK, again)
}

// The chapter's examples, row by row.
func TestExamplesOfFields(t *testing.T) {
	wantRead(t, num.Dec, 0, api.OK, "0", "000   ", "   ", "")
	wantRead(t, num.Dec, 120, api.OK, "120   ", "0120")
	wantRead(t, num.Dec, 0, api.ErrDigit, " 12", "1 2", "+1", "-1", "1\x00", "0x1")
	wantRead(t, num.Dec, 9223372036854775807, api.OK, "9223372036854775807", "0009223372036854775807 ")
	wantRead(t, num.Dec, 0, api.ErrWide, "9223372036854775808", "99999999999999999999999")
	wantRead(t, num.Dec, 0, api.ErrDigit, "99999999999999999999999x")
	wantRead(t, num.Oct, 33188, api.OK, "100644  ")
	wantRead(t, num.Oct, 9223372036854775807, api.OK, "777777777777777777777")
	wantRead(t, num.Oct, 0, api.ErrWide, "1000000000000000000000")
	wantRead(t, num.Oct, 0, api.ErrDigit, "8")
	wantWrite(t, num.PutDec, 0, 1, "0", api.OK)
	wantWrite(t, num.PutDec, 0, 3, "0  ", api.OK)
	wantWrite(t, num.PutDec, 120, 6, "120   ", api.OK)
	wantWrite(t, num.PutDec, 1000, 3, "", api.ErrWide)
	wantWrite(t, num.PutDec, -1, 20, "", api.ErrWide)
	wantWrite(t, num.PutDec, -1, 0, "", api.ErrRange)
	wantWrite(t, num.PutDec, 0, 21, "", api.ErrRange)
	wantWrite(t, num.PutDec, 9223372036854775807, 20, "9223372036854775807 ", api.OK)
	wantWrite(t, num.PutOct, 420, 8, "644     ", api.OK)
}
