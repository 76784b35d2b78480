package names

import (
	"math"
	"strconv"
	"testing"

	"shelf/api"
)

// 8.4: a number has no more digits than its field may have. (No list that fits into memory leads there, so that the writer itself is asked.)
func TestNumbersTooWide(t *testing.T) {
	for n := 1; n < 1_000_000_000_000_000_000; n *= 10 {
		for _, v := range []int{n - 1, n, n + n - 1} {
			wantNumber(t, ref(v), "/", v, v < 1_000_000_000_000_000)
			wantNumber(t, long(v), "#1/", v, v < 10_000_000_000_000)
		}
	}
	for _, v := range []int{-1, math.MinInt, math.MaxInt} {
		wantNumber(t, ref(v), "/", v, false)
		wantNumber(t, long(v), "#1/", v, false)
	}
}

func wantNumber(t *testing.T, s said, mark string, v int, fits bool) {
	t.Helper()
	field, e := write(s)
	switch {
	case fits && (field != mark+strconv.Itoa(v) || e != api.OK || len(field) > 16):
		t.Errorf("%s%d: %q, %d", mark, v, field, e)
	case !fits && (field != "" || e != api.ErrName):
		t.Errorf("%s%d: %q, %d, want a refusal", mark, v, field, e)
	}
}

// What is no ordinary member's has no field among the names.
func TestSpecialIsNotWritten(t *testing.T) {
	if field, e := write(special(api.FieldTable)); field != "" || e != api.ErrName {
		t.Errorf("%q, %d", field, e)
	}
}
