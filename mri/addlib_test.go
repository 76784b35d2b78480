package mri_test

import (
	"testing"

	"shelf/api"
)

// 19.14: without Names all members are taken, whole and in order, behind those that are there.
func TestAddLib(t *testing.T) {
	old := abacMembers()
	m := []api.Member{member("b", "in m"), member("e", "!")}
	list := abac()
	wantRun(t, list, "CREATE n / ADDLIB l.a / SAVE", told(), 7, list.but("n", made(gnu(old...))))
	wantRun(t, list, "CREATE n / ADDLIB l.a () / SAVE", told(), 7, list.but("n", made(gnu(old...))))
	wantRun(t, list, "CREATE n / ADDLIB m.a / ADDLIB l.a / SAVE", told(), 8, list.but("n", made(gnu(append(m, old...)...))))
	wantRun(t, list, "OPEN m.a / ADDLIB l.a / SAVE", told(), 8, list.but("m.a", made(bsd(append(m, old...)...))))
	dates := dated(member("z", "z"), 77)
	list = list.but("d.a", put(gnu(dates)))
	wantRun(t, list, "CREATE n / ADDLIB d.a / SAVE", told(), 7, list.but("n", made(gnu(dates))))
}

// 19.14: with Names those that are found are taken, in the names' order.
func TestAddLibWithNames(t *testing.T) {
	old := abacMembers()
	for names, want := range map[string][]api.Member{"b": {old[1]}, "c a": {old[3], old[0]}, "a b a": {old[0], old[1], old[2]}, "a,a": {old[0], old[2]}} {
		wantRun(t, abac(), "CREATE n / ADDMOD x / ADDLIB l.a ("+names+") / SAVE", told(), 9, abac().but("n", made(gnu(append([]api.Member{member("x", "ex")}, want...)...))))
	}
}

// 19.14: what is told is the taken ones' names, whatever bytes they have.
func TestAddLibTold(t *testing.T) {
	list := abac().but("e.a", put(regular())).but("w.a", put(regular(part("#1/3", own, "a bx"))))
	wantRun(t, list, "CREATE n / VERBOSE / ADDLIB l.a", told("q - a", "q - b", "q - a", "q - c"), 1, list)
	wantRun(t, list, "CREATE n / VERBOSE / ADDLIB l.a (c a a)", told("q - c", "q - a", "q - a"), 1, list)
	wantRun(t, list, "CREATE n / VERBOSE / ADDLIB e.a", told(), 1, list)
	wantRun(t, list, "CREATE n / VERBOSE / ADDLIB w.a", told(`q - "a b"`), 1, list)
	wantRun(t, list, "CREATE n / ADDLIB l.a / ADDLIB w.a", told(), 2, list)
}

// 19.14: a missing name is refused, the first one is told.
func TestAddLibMissing(t *testing.T) {
	for names, name := range map[string]string{"x": "x", "a x": "x", "y a x": "y", "a a a": "a", "b b x": "b"} {
		wantRun(t, abac(), "CREATE n / VERBOSE / ADDLIB l.a ("+names+") / SAVE", no(name, api.ErrNoMember), 1, abac())
	}
}

// 19.14: the open archive's own name may be given: its file is read, not what is open.
func TestAddLibOfItself(t *testing.T) {
	wantRun(t, abac(), "OPEN l.a / DELETE a b / ADDLIB l.a (a) / LIST", told(line("a", 5), line("c", 0), line("a", 3)), 2, abac())
	wantRun(t, abac(), "CREATE l.a / ADDLIB l.a (c b) / LIST", told(line("c", 0), line("b", 4)), 1, abac())
	wantRun(t, abac(), "CREATE n / ADDMOD x / ADDLIB n", no("n", api.ErrMissing), 3, abac())
	wantRun(t, abac(), "CREATE n / ADDMOD x / SAVE / ADDLIB n / LIST", told(line("x", 2), line("x", 2)), 9, abac().but("n", made(gnu(member("x", "ex")))))
}

// 19.14: a thin archive is refused, behind its loading and ahead of missing names.
func TestAddLibThin(t *testing.T) {
	list := abac().but("t.a", put(thin(member("a", "file a"))))
	for _, names := range []string{"", "()", "(a)", "(z)"} {
		wantRun(t, list, "CREATE n / ADDLIB t.a "+names, no("t.a", api.ErrKind), 1, list)
	}
}

// 19.14: the kind that is open stays, whatever kind a library has.
func TestAddLibKeepsTheKind(t *testing.T) {
	wantRun(t, abac(), "OPEN l.a / CLEAR / ADDLIB m.a / SAVE", told(), 8, abac().but("l.a", made(gnu(member("b", "in m"), member("e", "!")))))
}
