package mri_test

import (
	"testing"

	"shelf/api"
)

// 19.13: DELETE takes out the first members of the names, each as often as its name is given.
func TestDelete(t *testing.T) {
	old := abacMembers()
	for names, left := range map[string][]api.Member{
		"a": {old[1], old[2], old[3]}, "a a": {old[1], old[3]}, "c": {old[0], old[1], old[2]}, "c a b a": {}, "b,c": {old[0], old[2]},
	} {
		wantRun(t, abac(), "OPEN l.a / DELETE "+names+" / SAVE", told(), 7, abac().but("l.a", made(gnu(left...))))
	}
	wantRun(t, abac(), "OPEN l.a / DELETE a / DELETE a / SAVE", told(), 7, abac().but("l.a", made(gnu(old[1], old[3]))))
}

// 19.13: what is told is the names as they were given, if verbose is on.
func TestDeleteTold(t *testing.T) {
	wantRun(t, abac(), "OPEN l.a / VERBOSE / DELETE c a b a", told("d - c", "d - a", "d - b", "d - a"), 1, abac())
	wantRun(t, abac(), "OPEN l.a / DELETE c a b a", told(), 1, abac())
}

// 19.13: a name that is missing, or given once too often, is refused: the first one is told, and nothing of those ahead.
func TestDeleteMissing(t *testing.T) {
	for names, name := range map[string]string{"x": "x", "a x": "x", "y a x": "y", "a a a": "a", "b x b": "x", "b b x": "b", "l.a": "l.a", temp: temp, "A": "A"} {
		wantRun(t, abac(), "OPEN l.a / VERBOSE / DELETE "+names+" / SAVE", no(name, api.ErrNoMember), 1, abac())
	}
	wantRun(t, abac(), "CREATE n / DELETE a", no("a", api.ErrNoMember), 0, abac())
	wantRun(t, abac(), "OPEN l.a / DELETE b / DELETE b", no("b", api.ErrNoMember), 1, abac())
}

// 19.13: behind CLEAR there are no members; nothing is told, and nothing called.
func TestClear(t *testing.T) {
	wantRun(t, abac(), "OPEN l.a / VERBOSE / CLEAR / LIST", told(), 1, abac())
	wantRun(t, abac(), "OPEN l.a / CLEAR / DELETE a", no("a", api.ErrNoMember), 1, abac())
	wantRun(t, abac(), "OPEN l.a / CLEAR / ADDMOD x / LIST", told(line("x", 2)), 3, abac())
	wantRun(t, abac(), "OPEN l.a / CLEAR / SAVE", told(), 7, abac().but("l.a", made(regular())))
	wantRun(t, abac(), "CREATE n / CLEAR / CLEAR / LIST", told(), 0, abac())
}
