package show_test

import (
	"testing"

	"shelf/api"
)

// 14.4: of no events nothing is told.
func TestEventsOfNone(t *testing.T) {
	wantEvents(t, nil, "")
	wantEvents(t, []api.Event{}, "")
}

// 14.4: each byte is told but for the letter u, and it is told as one byte.
func TestEventBytes(t *testing.T) {
	for b := range 256 {
		want := string([]byte{byte(b)}) + " - a.o\n"
		if b == 'u' {
			want = ""
		}
		wantEvents(t, events(event(byte(b), "a.o")), want)
		wantEvents(t, events(event('r', "x"), event(byte(b), "a.o"), event('d', "y")), "r - x\n"+want+"d - y\n")
	}
	wantEvents(t, events(event('a', "1"), event('r', "2"), event('d', "3"), event('m', "4"), event('q', "5"), event('x', "6")),
		"a - 1\nr - 2\nd - 3\nm - 4\nq - 5\nx - 6\n")
}

// 14.4: what was left as it was is passed over wherever it stands, and nothing else is.
func TestEventsLeftOut(t *testing.T) {
	u, r, a := event('u', "b.o"), event('r', "a.o"), event('a', "c.o")
	wantEvents(t, events(u), "")
	wantEvents(t, events(u, u, u), "")
	wantEvents(t, events(u, r), "r - a.o\n")
	wantEvents(t, events(r, u), "r - a.o\n")
	wantEvents(t, events(r, u, a), "r - a.o\na - c.o\n")
	wantEvents(t, events(u, r, u, u, a, u), "r - a.o\na - c.o\n")
	wantEvents(t, events(r, a, r, a), "r - a.o\na - c.o\nr - a.o\na - c.o\n")
	wantEvents(t, events(event('u', ""), event('U', "u"), event('r', "u"), event('u', "\n")), "U - u\nr - u\n")
}

// 14.4: names, quoted where they must be.
func TestEventNames(t *testing.T) {
	for _, name := range quotedNames() {
		wantEvents(t, events(event('q', name[0])), "q - "+name[1]+"\n")
		wantEvents(t, events(event('u', name[0])), "")
	}
}

// 14.4: of very many events, each is told.
func TestManyEvents(t *testing.T) {
	var list []api.Event
	var want []byte
	for i := range 100000 {
		list = append(list, event("ru"[i%2], "a.o"))
		if i%2 == 0 {
			want = append(want, "r - a.o\n"...)
		}
	}
	wantEvents(t, list, string(want))
}
