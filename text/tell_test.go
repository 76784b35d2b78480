package text_test

import (
	"fmt"
	"math"
	"testing"
	"time"

	"shelf/api"
	"shelf/text"
)

func wantMode(t *testing.T, mode int, letters string) {
	t.Helper()
	if got := text.ModeString(mode); got != letters {
		t.Errorf("ModeString(%o) = %s, want %s", mode, got, letters)
	}
}

// 2.7: each bit alone has a letter and a place of its own.
func TestSingleModeBits(t *testing.T) {
	for i, letters := range []string{
		"--------x", "-------w-", "------r--", "-----x---", "----w----", "---r-----", "--x------", "-w-------", "r--------",
		"--------T", "-----S---", "--S------",
	} {
		wantMode(t, 1<<i, letters)
	}
	for i := 12; i < 64; i++ {
		wantMode(t, 1<<i, "---------")
	}
}

// 2.7: the third letter hangs on two bits in each group.
func TestExecuteLetters(t *testing.T) {
	for _, c := range []struct {
		execute, other int
		place          int
		mark           string
	}{{0o100, 0o4000, 2, "sS"}, {0o010, 0o2000, 5, "sS"}, {0o001, 0o1000, 8, "tT"}} {
		for _, m := range []struct {
			mode   int
			letter byte
		}{{0, '-'}, {c.execute, 'x'}, {c.execute | c.other, c.mark[0]}, {c.other, c.mark[1]}} {
			want := []byte("---------")
			want[c.place] = m.letter
			wantMode(t, m.mode, string(want))
		}
	}
}

// 2.7: only the lowest twelve bits count.
func TestForeignModeBits(t *testing.T) {
	for mode := range 1 << 12 {
		for _, more := range []int{1 << 12, 0o100000, math.MinInt, -1 << 12} {
			if got, want := text.ModeString(mode|more), text.ModeString(mode); got != want {
				t.Fatalf("ModeString(%o) = %s, want %s", mode|more, got, want)
			}
		}
	}
}

// The chapter's examples of ModeString, row by row.
func TestExamplesOfModeString(t *testing.T) {
	wantMode(t, 0o644, "rw-r--r--")
	wantMode(t, 0o4755, "rwsr-xr-x")
	wantMode(t, 0o2670, "rw-rws---")
	wantMode(t, 0o1777, "rwxrwxrwt")
	wantMode(t, 0o7000, "--S--S--T")
	wantMode(t, 0o100644, "rw-r--r--")
	wantMode(t, -1, "rwsrwsrwt")
}

// wantCivil wants the library's date of sec from Civil and DateString.
func wantCivil(t *testing.T, sec int) {
	t.Helper()
	u := time.Unix(int64(sec), 0).UTC()
	year, month, day, hour, minute := text.Civil(sec)
	if year != u.Year() || month != int(u.Month()) || day != u.Day() || hour != u.Hour() || minute != u.Minute() {
		t.Errorf("Civil(%d) = %d %d %d %d %d, want %v", sec, year, month, day, hour, minute, u)
	}
	want := fmt.Sprintf("%s %2d %02d:%02d %d", u.Month().String()[:3], u.Day(), u.Hour(), u.Minute(), u.Year())
	if got := text.DateString(sec); got != want {
		t.Errorf("DateString(%d) = %s, want %s", sec, got, want)
	}
}

// 2.8, 2.9: both ends of every day of the first 450 years, and of the days around each new year and each first of March up to the last date.
func TestDaysOfTheCalendar(t *testing.T) {
	for day := range 450 * 366 {
		wantCivil(t, day*86400)
		wantCivil(t, day*86400+86399)
	}
	for year := 1970; year <= 33658; year++ {
		for _, month := range []time.Month{time.January, time.March} {
			first := int(time.Date(year, month, 1, 0, 0, 0, 0, time.UTC).Unix())
			wantCivil(t, first)
			if first > 0 {
				wantCivil(t, first-1)
			}
		}
	}
}

// 2.8, 2.9: the seconds of a day.
func TestSecondsOfADay(t *testing.T) {
	for sec := range 86400 {
		wantCivil(t, 951782400+sec)
	}
}

// 2.8, 2.9: what is no date.
func TestNoDates(t *testing.T) {
	for _, sec := range []int{-1, -60, -86400, math.MinInt, api.MaxDate + 1, api.MaxDate + 60, math.MaxInt} {
		year, month, day, hour, minute := text.Civil(sec)
		if year != 0 || month != 0 || day != 0 || hour != 0 || minute != 0 {
			t.Errorf("Civil(%d) = %d %d %d %d %d, want zeros", sec, year, month, day, hour, minute)
		}
		if got := text.DateString(sec); got != "??? ?? ??:?? ????" {
			t.Errorf("DateString(%d) = %s", sec, got)
		}
	}
	wantCivil(t, 0)
	wantCivil(t, api.MaxDate)
}

// The chapter's examples of DateString, row by row.
func TestExamplesOfDateString(t *testing.T) {
	for _, c := range []struct {
		sec  int
		want string
	}{
		{0, "Jan  1 00:00 1970"}, {951782400, "Feb 29 00:00 2000"}, {4107542399, "Feb 28 23:59 2100"},
		{999999999999, "Sep 27 01:46 33658"}, {-1, "??? ?? ??:?? ????"},
	} {
		if got := text.DateString(c.sec); got != c.want {
			t.Errorf("DateString(%d) = %q, want %q", c.sec, got, c.want)
		}
	}
}
