package mri_test

import (
	"math"
	"math/rand"
	"slices"
	"strings"
	"testing"

	"shelf/api"
	"shelf/mri"
)

// wantText: the commands are this text.
func wantText(t *testing.T, want string, list ...api.Mri) {
	t.Helper()
	if got := mri.Text(list); got != want {
		t.Errorf("Text(%+v) = %q, want %q", list, got, want)
	}
}

// 19.6: the line of each verb, with Names of none, one and several, fields that the table has nothing for being let go.
func TestText(t *testing.T) {
	for _, names := range [][]string{nil, {}, {"a"}, {"a", "b"}, {"a", "b", "a"}, {""}, {"", ""}, {"a b", "(", "\n", "+"}} {
		joined := strings.Join(names, ", ")
		for _, name := range []string{"", "l", "a b", "\n", "\xff"} {
			for _, w := range oneName() {
				wantText(t, w.text+" "+name+"\n", of(w.verb, name, names...))
			}
			for _, w := range someNames() {
				wantText(t, w.text+" "+joined+"\n", of(w.verb, name, names...))
			}
			for _, w := range nameAndNames() {
				want := w.text + " " + name + " (" + joined + ")\n"
				if len(names) == 0 {
					want = w.text + " " + name + "\n"
				}
				wantText(t, want, of(w.verb, name, names...))
			}
			for _, w := range nothing() {
				wantText(t, w.text+"\n", of(w.verb, name, names...))
			}
		}
	}
}

// 19.6: a Verb that is none of the thirteen has no line; the others have theirs, in order.
func TestTextOfNoVerb(t *testing.T) {
	wantText(t, "")
	for _, verb := range []int{0, 14, 15, -1, -13, 256 + 1, 1<<32 + 1, math.MaxInt, math.MinInt} {
		wantText(t, "", of(verb, "n", "a"))
		wantText(t, "LIST\nSAVE\n", of(8, ""), of(verb, "n", "a"), of(12, ""), of(verb, ""))
	}
	wantText(t, "END\nLIST\nCREATE a\nDELETE b, c\nLIST\n", of(13, ""), of(8, ""), of(1, "a"), of(5, "", "b", "c"), of(8, ""))
}

// R4: the list that is handed in is not changed, its spare room included.
func TestTextKeepsItsList(t *testing.T) {
	names := []string{"a", "b", "spare"}
	given := []api.Mri{{Verb: 5, Names: names[:2]}, {Verb: 4, Name: "l", Names: names[:1]}, {Verb: 8, Name: "spare"}}
	mri.Text(given[:2])
	if !slices.Equal(names, []string{"a", "b", "spare"}) || !same(given, []api.Mri{del("a", "b"), of(4, "l", "a"), of(8, "spare")}) {
		t.Errorf("Text leaves %+v, %q", given, names)
	}
}

// isClean is 19.7's word for a name.
func isClean(name string) bool {
	return name != "" && name != "+" && !strings.ContainsAny(name, "\n \t\r,()*;")
}

// comesBack: is Decode(Text(list)) the list?
func comesBack(list ...api.Mri) bool {
	got, line, e := mri.Decode(mri.Text(list))
	return same(got, list) && line == 0 && e == api.OK
}

// 19.7: commands with every clean name of one byte, and of two bytes around it, come back.
func TestCleanNames(t *testing.T) {
	for b := range 256 {
		s := string([]byte{byte(b)})
		for _, name := range []string{s, "a" + s, s + "a", "a" + s + "b", s + s, s + "+", "+" + s} {
			if !isClean(name) {
				continue
			}
			if !comesBack(of(1, name), of(4, name), of(4, name, name), of(9, "l", "x", name), of(3, "", name), of(5, "", name, "x"), of(6, "", "x", name), of(12, "")) {
				t.Errorf("19.7: commands with the name %q do not come back", name)
			}
		}
	}
}

// 19.7: each way not to be clean shows, so that none of the promise's conditions is there for nothing.
func TestNotClean(t *testing.T) {
	for _, name := range []string{"", "\n", " ", "\t", "\r", ",", "(", ")", "*", ";", "a b", "a\nb", "a,b", "a(b", "a)", "*a", "a;"} {
		for _, c := range []api.Mri{of(1, name), of(2, name), of(4, name), of(9, name, "x"), of(4, "l", name), of(3, "", name), of(7, "", "x", name)} {
			if comesBack(c, of(8, "")) {
				t.Errorf("19.7: %+v comes back", c)
			}
		}
	}
	for _, c := range []api.Mri{of(1, "+"), of(4, "+"), of(5, "", "+"), of(6, "", "x", "+"), of(0, ""), of(14, ""), of(-1, ""), of(5, ""), of(1, "l", "x"), of(5, "n", "x"), of(8, "n"), of(12, "", "x"), of(3, ""), of(6, ""), of(7, "")} {
		if comesBack(c, of(8, "")) {
			t.Errorf("19.7: %+v comes back", c)
		}
	}
}

// 19.7: chance lists of clean commands come back.
func TestComesBack(t *testing.T) {
	d := dice{rand.New(rand.NewSource(1))}
	for range 20000 {
		var list []api.Mri
		for range d.Intn(6) {
			list = append(list, d.clean())
		}
		if !comesBack(list...) {
			t.Fatalf("19.7: %+v does not come back", list)
		}
	}
}

// clean is a clean command.
func (d dice) clean() api.Mri {
	w := one(d, allWords()...)
	c := api.Mri{Verb: w.verb}
	if slices.Contains(oneName(), w) || slices.Contains(nameAndNames(), w) {
		c.Name = d.cleanName()
	}
	least := 0
	if slices.Contains(someNames(), w) {
		least = 1
	}
	if least == 1 || slices.Contains(nameAndNames(), w) {
		for range d.Intn(4) + least {
			c.Names = append(c.Names, d.cleanName())
		}
	}
	return c
}

// cleanName is a clean name of any bytes.
func (d dice) cleanName() string {
	for {
		b := make([]byte, d.Intn(4)+1)
		for i := range b {
			b[i] = one(d, byte(d.Intn(256)), "+a/\x00\"'@-\xc3\xa9"[d.Intn(10)])
		}
		if name := string(b); isClean(name) {
			return name
		}
	}
}
