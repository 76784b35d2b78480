package show_test

import (
	"slices"
	"testing"

	"shelf/api"
	"shelf/show"
)

// R4: lists that are handed in are as they were, with what lies behind them, and what was told of them stays when they are changed.
func TestGivenAsTheyWere(t *testing.T) {
	for n := range 5 {
		for _, verbose := range []bool{false, true} {
			wantMembersLeft(t, n, func(l []api.Member) string { return show.List(l, verbose) })
			wantMembersLeft(t, n, func(l []api.Member) string { return show.Print(l, verbose) })
		}
		wantEventsLeft(t, n)
	}
}

// wantMembersLeft hands tell the first n of a list.
func wantMembersLeft(t *testing.T, n int, tell func([]api.Member) string) {
	t.Helper()
	was := members(member("a b", "hello\n"), member("", ""), api.Member{Name: "x\n", Size: -7}, member("a b", "\x00"), member("spare", "spare"))
	given := slices.Clone(was)
	told := tell(given[:n])
	if !slices.Equal(given, was) {
		t.Errorf("%+v is left of %+v", given, was)
	}
	clear(given)
	if want := tell(was[:n]); told != want {
		t.Errorf("%q is told, and %q when the list was changed", want, told)
	}
}

// wantEventsLeft hands Events the first n of a list.
func wantEventsLeft(t *testing.T, n int) {
	t.Helper()
	was := events(event('u', "a b"), event('r', "a b"), event('u', ""), event('d', "x\n"), event('q', "spare"))
	given := slices.Clone(was)
	told := show.Events(given[:n])
	if !slices.Equal(given, was) {
		t.Errorf("%+v is left of %+v", given, was)
	}
	clear(given)
	if want := show.Events(was[:n]); told != want {
		t.Errorf("%q is told, and %q when the list was changed", want, told)
	}
}
