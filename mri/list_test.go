package mri_test

import (
	"testing"

	"shelf/api"
)

// 19.15: DIRECTORY tells the members' names, or lines if verbose is on: of all, or of those that are named, in the names' order.
func TestDirectory(t *testing.T) {
	wantRun(t, abac(), "DIRECTORY l.a", told("a", "b", "a", "c"), 1, abac())
	wantRun(t, abac(), "DIRECTORY l.a ()", told("a", "b", "a", "c"), 1, abac())
	wantRun(t, abac(), "DIRECTORY l.a (c a a)", told("c", "a", "a"), 1, abac())
	wantRun(t, abac(), "VERBOSE / DIRECTORY l.a", told(line("a", 3), line("b", 4), line("a", 5), line("c", 0)), 1, abac())
	wantRun(t, abac(), "VERBOSE / DIRECTORY l.a (a,c,a)", told(line("a", 3), line("c", 0), line("a", 5)), 1, abac())
	wantRun(t, abac(), "DIRECTORY m.a / DIRECTORY m.a", told("b", "e", "b", "e"), 2, abac())
	list := abac().but("e.a", put(regular()))
	wantRun(t, list, "VERBOSE / DIRECTORY e.a", told(), 1, list)
}

// 19.15: a missing name is refused, and nothing is told of the others.
func TestDirectoryMissing(t *testing.T) {
	for names, name := range map[string]string{"x": "x", "a x y": "x", "a a a": "a"} {
		wantRun(t, abac(), "DIRECTORY l.a ("+names+")", no(name, api.ErrNoMember), 1, abac())
		wantRun(t, abac(), "DIRECTORY l.a (c) / VERBOSE / DIRECTORY l.a ("+names+")", no(name, api.ErrNoMember, "c"), 2, abac())
	}
}

// 19.15: DIRECTORY may be asked of a thin archive; no file of its members is read.
func TestDirectoryThin(t *testing.T) {
	list := abac().but("t.a", put(thin(member("gone", "1234567"), member("a", "file a"))))
	wantRun(t, list, "DIRECTORY t.a", told("gone", "a"), 1, list)
	wantRun(t, list, "VERBOSE / DIRECTORY t.a (a gone)", told(line("a", 6), line("gone", 7)), 1, list)
	wantRun(t, list, "DIRECTORY t.a (z)", no("z", api.ErrNoMember), 1, list)
}

// 19.15: DIRECTORY reads the file, and what is open stays as it is.
func TestDirectoryBesideOpen(t *testing.T) {
	wantRun(t, abac(), "OPEN l.a / DELETE a / DIRECTORY l.a / LIST", told("a", "b", "a", "c", line("b", 4), line("a", 5), line("c", 0)), 2, abac())
	wantRun(t, abac(), "OPEN l.a / DIRECTORY m.a / DELETE b a a / LIST", told("b", "e", line("c", 0)), 2, abac())
	wantRun(t, abac(), "CREATE n / DIRECTORY n", no("n", api.ErrMissing), 1, abac())
}

// 19.15: LIST tells lines of what is open, verbose or not.
func TestList(t *testing.T) {
	wantRun(t, abac(), "OPEN m.a / LIST / VERBOSE / LIST", told(line("b", 4), line("e", 1), line("b", 4), line("e", 1)), 1, abac())
	wantRun(t, abac(), "OPEN m.a / ADDMOD y / DELETE e / LIST", told(line("b", 4), "rwxr-xr-x 0/0      0 Jan  1 00:00 1970 y"), 3, abac())
	wantRun(t, abac(), "CREATE n / LIST", told(), 0, abac())
}

// 19.15: VERBOSE turns verbose on, and off again.
func TestVerbose(t *testing.T) {
	wantRun(t, abac(), "VERBOSE / VERBOSE / DIRECTORY m.a", told("b", "e"), 1, abac())
	wantRun(t, abac(), "OPEN l.a / DELETE a / VERBOSE / DELETE b / VERBOSE / DELETE a / VERBOSE / DELETE c", told("d - b", "d - c"), 1, abac())
	wantRun(t, abac(), "VERBOSE / DIRECTORY m.a (e) / VERBOSE / DIRECTORY m.a (e)", told(line("e", 1), "e"), 2, abac())
}
