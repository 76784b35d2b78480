package nm_test

import (
	"fmt"
	"slices"
	"strings"
	"testing"

	"shelf/api"
	"shelf/nm"
)

// options are the options of these letters.
func options(letters string) api.NmOpts {
	has := func(l string) bool { return strings.Contains(letters, l) }
	return api.NmOpts{Global: has("g"), Undef: has("u"), Number: has("n"), Plain: has("p"), Reverse: has("r"), Prefix: has("A"), Index: has("s")}
}

// allOptions are all letters that may be asked for at once, in every choice of them.
func allOptions() []string {
	list := []string{""}
	for _, l := range "gunprAs" {
		for _, x := range list {
			list = append(list, x+string(l))
		}
	}
	return list
}

// named is a list of rows that are told apart by their Size: each word is name:value:section, and the letter and bind behind that.
func named(text string) []api.Row {
	var list []api.Row
	for i, word := range strings.Fields(text) {
		var r api.Row
		part := strings.Split(word, ":")
		r.Name, r.Letter, r.Size = part[0], part[3][0], uint64(i)
		fmt.Sscan(part[1], &r.Value)
		fmt.Sscan(part[2], &r.Section)
		fmt.Sscan(part[3][1:], &r.Bind)
		list = append(list, r)
	}
	return list
}

// wantSort: the rows of these numbers, in this order, are answered.
func wantSort(t *testing.T, rows []api.Row, letters string, numbers ...int) {
	t.Helper()
	var want []api.Row
	for _, n := range numbers {
		want = append(want, rows[n])
	}
	given := slices.Clone(rows)
	wantRows(t, fmt.Sprintf("20.3: Sort of %v with %q", rows, letters), nm.Sort(given, options(letters)), want)
	wantRows(t, "20.3: the rows that were handed in", given, rows)
}

// 20.3: no option: by name bytewise, then by value, then as they stood.
func TestByName(t *testing.T) {
	wantSort(t, nil, "")
	wantSort(t, named("b:5:1:T1 a:9:1:T1 a:2:1:T1"), "", 2, 1, 0)
	wantSort(t, named("a:1:1:T1 a:1:2:D1 a:1:0:U1 a:1:1:T1"), "", 0, 1, 2, 3)
	wantSort(t, named("b:0:1:T1 B:9:1:T1 a:8:1:T1 ab:7:1:T1 é:6:1:T1 _:5:1:T1 z:4:1:T1 \xff:3:1:T1"), "", 1, 5, 2, 3, 0, 6, 4, 7)
	wantSort(t, named("a:18446744073709551615:1:T1 a:9223372036854775808:1:T1 a:0:1:T1 a:9223372036854775807:1:T1"), "", 2, 3, 1, 0)
	// A row whose Section is 0 is as any other here.
	wantSort(t, named("b:0:0:U1 a:9:1:T1 c:0:1:T1 a:3:0:U1"), "", 3, 1, 0, 2)
	wantSort(t, []api.Row{{Letter: 'T'}, {Letter: 'D'}}, "", 0, 1)
}

// 20.3: Number: Section 0 ahead, then by value, then by name, then as they stood.
func TestByNumber(t *testing.T) {
	wantSort(t, named("b:5:1:T1 a:9:1:T1 a:2:1:T1"), "n", 2, 0, 1)
	wantSort(t, named("y:0:1:T1 x:3:0:U1 z:0:0:U1"), "n", 2, 1, 0)
	wantSort(t, named("y:0:-1:?1 x:3:0:U1 w:0:65521:A1 z:9:0:w2"), "n", 1, 3, 2, 0)
	wantSort(t, named("c:4:1:T1 b:4:2:D1 a:4:3:R1 b:4:1:T1 b:4:2:D1"), "n", 2, 1, 3, 4, 0)
	wantSort(t, named("c:4:0:U1 b:4:0:U1 a:4:0:U1 b:4:0:U1"), "n", 2, 1, 3, 0)
	wantSort(t, named("a:18446744073709551615:1:T1 b:9223372036854775808:1:T1 c:0:1:T1 d:9223372036854775807:1:T1"), "n", 2, 3, 1, 0)
	wantSort(t, named("b:1:1:T1 B:1:1:T1 é:1:1:T1 z:1:1:T1 ab:1:1:T1"), "n", 1, 4, 0, 3, 2)
}

// 20.3: Plain: as they stood, whatever else is asked for.
func TestPlain(t *testing.T) {
	rows := named("b:5:1:T1 a:9:0:U1 c:1:1:T1 a:2:1:T1")
	for _, letters := range []string{"p", "pn", "pA", "pns", "pg"} {
		wantSort(t, rows, letters, 0, 1, 2, 3)
	}
}

// 20.3: Reverse turns the whole list round, those that stood as they were too.
func TestReverse(t *testing.T) {
	rows := named("b:5:1:T1 a:9:1:T1 a:2:1:T1 a:2:1:D1 z:7:0:U1")
	wantSort(t, rows, "", 2, 3, 1, 0, 4)
	wantSort(t, rows, "r", 4, 0, 1, 3, 2)
	wantSort(t, rows, "n", 4, 2, 3, 0, 1)
	wantSort(t, rows, "nr", 1, 0, 3, 2, 4)
	wantSort(t, rows, "pr", 4, 3, 2, 1, 0)
	wantSort(t, rows, "pnr", 4, 3, 2, 1, 0)
	wantSort(t, nil, "r")
	wantSort(t, rows[:1], "r", 0)
}

// 20.3: Global leaves out what has Bind 0; Undef leaves out what is neither U nor w, whatever its Section and Bind.
func TestLeftOut(t *testing.T) {
	rows := named("l:1:1:t0 g:1:1:T1 w:1:1:W2 u:0:0:U1 x:0:0:w2 o:0:0:U0 q:1:1:?1 v:0:0:T1 y:1:1:U1 k:2:1:T10 d:1:1:u1 m:1:1:W-1")
	wantSort(t, rows, "p", 0, 1, 2, 3, 4, 5, 6, 7, 8, 9, 10, 11)
	wantSort(t, rows, "pg", 1, 2, 3, 4, 6, 7, 8, 9, 10, 11)
	wantSort(t, rows, "pu", 3, 4, 5, 8)
	wantSort(t, rows, "pgu", 3, 4, 8)
	wantSort(t, rows, "gu", 3, 4, 8)
	wantSort(t, rows, "gur", 8, 4, 3)
	wantSort(t, rows, "gun", 3, 4, 8)
	wantSort(t, rows, "u", 5, 3, 4, 8)
	wantSort(t, rows, "un", 5, 3, 4, 8)
	wantSort(t, rows[:1], "g")
	wantSort(t, rows[:3], "u")
}

// 20.3: the options A and s do not matter, and neither does u or g where nothing is left out.
func TestOtherOptions(t *testing.T) {
	rows := named("b:5:0:U1 a:9:0:U1 a:2:0:w2 c:2:0:U1 a:2:0:U1")
	for _, letters := range allOptions() {
		plain := strings.Map(func(l rune) rune {
			if strings.ContainsRune("Asug", l) {
				return -1
			}
			return l
		}, letters)
		wantRows(t, "20.3: with "+letters, nm.Sort(rows, options(letters)), nm.Sort(rows, options(plain)))
	}
}

// 20.3, R4: what is handed in is as it was, its spare room included, and the answer is new memory, however little is asked for.
func TestSortNewMemory(t *testing.T) {
	rows := named("b:5:1:T1 a:9:1:T1 a:2:0:U1 c:0:1:t0 spare:1:1:T1 spare:2:0:U1")
	for _, letters := range allOptions() {
		given := slices.Clone(rows)
		first := nm.Sort(given[:4], options(letters))
		want := slices.Clone(first)
		second := nm.Sort(given[:4], options(letters))
		clear(second[:cap(second)])
		wantRows(t, "20.3: what was handed in with "+letters, given, rows)
		wantRows(t, "20.3: an earlier answer with "+letters, first, want)
		clear(given)
		wantRows(t, "20.3: with other rows in the list, "+letters, first, want)
	}
}
