package show_test

import (
	"slices"
	"testing"

	"shelf/api"
	"shelf/show"
)

// cut calls look with each beginning of a list and the rest, and with each piece and the whole list.
func cut[T any](list []T, look func(first, second []T)) {
	for i := range len(list) + 1 {
		look(list[:i:i], list[i:])
		look(list[i:], list)
		look(list, list[:i:i])
	}
}

// wantApart wants tell to tell of two lists one behind the other what it tells of each.
func wantApart[T any](t *testing.T, list []T, tell func([]T) string) {
	t.Helper()
	cut(list, func(first, second []T) {
		both := slices.Concat(first, second)
		if got, want := tell(both), tell(first)+tell(second); got != want {
			t.Errorf("of %+v, %q is told, of its parts %q", both, got, want)
		}
	})
}

// 14.7: nothing of what is told of one member hangs on another one.
func TestMembersApart(t *testing.T) {
	list := members(member("a.o", "hello"), member("a.o", "hello"), member("", ""), member("x\n", "\n"), member("<", "\x00"), member("\xff", "\n<a.o>\n\n"), member("a.o", "other"), api.Member{}, api.Member{Name: "b b", Size: 12345678})
	for _, verbose := range []bool{false, true} {
		wantApart(t, list, func(l []api.Member) string { return show.List(l, verbose) })
		wantApart(t, list, func(l []api.Member) string { return show.Print(l, verbose) })
	}
}

// 14.7: nor does what is told of one event.
func TestEventsApart(t *testing.T) {
	wantApart(t, events(event('u', "a.o"), event('r', "a.o"), event('r', "a.o"), event('u', "\n"), event('u', "b.o"), event('\n', ""), event('a', "u"), event(0xff, "\xff"), event('u', "")), show.Events)
}

// R2: what is told hangs on the arguments alone, not on what was told before.
func TestToldAgain(t *testing.T) {
	list, done := members(member("a b", "x"), member("b", "")), events(event('r', "a b"), event('u', "b"))
	told := func() []string {
		return []string{show.Line(list[0]), show.List(list, false), show.List(list, true), show.Print(list, false), show.Print(list, true), show.Events(done), show.Message(api.Ranlib, "a b", api.ErrIO)}
	}
	first := told()
	show.List(members(member("other", "other")), true)
	show.Print(members(member("other", "other")), true)
	show.Events(events(event('d', "other")))
	show.Message(api.Ar, "", api.OK)
	if again := told(); !slices.Equal(first, again) {
		t.Errorf("%q, then %q", first, again)
	}
}
