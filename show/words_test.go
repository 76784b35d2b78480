package show_test

import (
	"slices"
	"strconv"
	"strings"
	"testing"

	"shelf/api"
	"shelf/show"
	"shelf/text"
)

// words are those that told is split into.
func words(t *testing.T, told string) []string {
	t.Helper()
	split, at, e := text.Words(told)
	if at != 0 || e != api.OK {
		t.Errorf("%q is refused at %d: %d", told, at, e)
	}
	return split
}

func wantWords(t *testing.T, told string, want ...string) {
	t.Helper()
	if split := words(t, told); !slices.Equal(split, want) {
		t.Errorf("the words of %q are %q, want %q", told, split, want)
	}
}

// wantOneLine wants a text with one newline, at its end.
func wantOneLine(t *testing.T, told string) {
	t.Helper()
	if strings.Count(told, "\n") != 1 || !strings.HasSuffix(told, "\n") {
		t.Errorf("%q is not one line", told)
	}
}

// 14.6: the short list is split into the names.
func TestWordsOfList(t *testing.T) {
	var list []api.Member
	names := anyNames()
	for i, name := range names {
		m := member(name, "data of "+name)
		list = append(list, m)
		wantOneLine(t, show.List(members(m), false))
		wantWords(t, show.List(members(m), false), name)
		other := names[len(names)-1-i]
		wantWords(t, show.List(members(m, member(other, "")), false), name, other)
	}
	wantWords(t, show.List(list, false), names...)
	wantWords(t, show.List(nil, false))
}

// 14.6: a line is split into eight words.
func TestWordsOfLine(t *testing.T) {
	all := numbers()
	for i, name := range anyNames() {
		uid, gid, size := all[i%len(all)], all[(i/3)%len(all)], all[(i/5)%len(all)]
		m := api.Member{Meta: api.Meta{Date: 951782400 + 60*i, UID: uid, GID: gid, Mode: i}, Name: name, Size: size, Data: name}
		date := strings.Fields(text.DateString(m.Date))
		want := []string{text.ModeString(i), strconv.Itoa(uid) + "/" + strconv.Itoa(gid), strconv.Itoa(size), date[0], date[1], date[2], date[3], name}
		wantOneLine(t, show.Line(m))
		wantWords(t, show.Line(m), want...)
		m.Date = -1 - i
		wantWords(t, show.Line(m), append(want[:3:3], "???", "??", "??:??", "????", name)...)
	}
}

// 14.6: each event that is told is split into three words, if it is a letter.
func TestWordsOfEvents(t *testing.T) {
	const letters = "abcdefghijklmnopqrstuvwxyzABCDEFGHIJKLMNOPQRSTUVWXYZ"
	var list []api.Event
	var want []string
	for i, name := range anyNames() {
		v := event(letters[i%len(letters)], name)
		list = append(list, v)
		if v.What == 'u' {
			wantWords(t, show.Events(events(v)))
			continue
		}
		three := []string{string(rune(v.What)), "-", name}
		want = append(want, three...)
		wantOneLine(t, show.Events(events(v)))
		wantWords(t, show.Events(events(v)), three...)
	}
	wantWords(t, show.Events(list), want...)
	wantWords(t, show.Events(nil))
}

// 14.6: a message with a name begins with the program and the name, each with its colon.
func TestWordsOfMessage(t *testing.T) {
	for _, name := range anyNames() {
		if name == "" {
			continue
		}
		for prog, word := range map[int]string{api.Ar: "ar:", api.Ranlib: "ranlib:", 7: "ar:"} {
			for _, code := range []api.Errno{api.OK, api.ErrMagic, api.ErrNoIndex, 9999} {
				told := show.Message(prog, name, code)
				wantOneLine(t, told)
				wantWords(t, told, append([]string{word, name + ":"}, strings.Fields(code.Error())...)...)
			}
		}
	}
}
