package mri_test

import (
	"testing"

	"shelf/api"
)

// newLike is a member as a file of a volume becomes one.
func newLike(name string, f file) api.Member {
	return api.Member{Meta: f.meta, Name: name, Size: len(f.data), Data: f.data}
}

// 19.12: a new member has the Meta that Stat told, the name, the bytes and their number.
func TestNewMembers(t *testing.T) {
	long := file{filled(1201), api.Meta{Date: 999999999999, UID: 999999, GID: 31, Mode: 0o100755}}
	list := abac().but("long", long)
	want := gnu(newLike("long", long), newLike("y", list["y"]), newLike("a", list["a"]))
	for _, verb := range []string{"ADDMOD", "REPLACE"} {
		wantRun(t, list, "CREATE n / "+verb+" long y a / SAVE", told(), 6+5+(len(want)+511)/512, list.but("n", made(want)))
	}
}

// 19.12: ADDMOD puts files behind all members, also those of names that are there.
func TestAddMod(t *testing.T) {
	list := abac()
	want := gnu(append(abacMembers(), newLike("x", list["x"]), newLike("a", list["a"]), newLike("x", list["x"]))...)
	wantRun(t, list, "OPEN l.a / ADDMOD x a x / SAVE", told(), 1+6+6, list.but("l.a", made(want)))
	wantRun(t, list, "OPEN l.a / ADDMOD x / ADDMOD a x / SAVE", told(), 1+6+6, list.but("l.a", made(want)))
	wantRun(t, list, "CREATE n / VERBOSE / ADDMOD x a x / ADDMOD b", told("q - x", "q - a", "q - x", "q - b"), 8, list)
	wantRun(t, list, "CREATE n / ADDMOD x a x / ADDMOD b", told(), 8, list)
}

// 19.12: the files that are read may be the script, the open archive's own, and one that is left of an archive.
func TestAddModOfAnyFile(t *testing.T) {
	list := abac().but("n", put("old n"))
	wantRun(t, list, "CREATE n / ADDMOD n l.a / LIST", told(line("n", 5), line("l.a", len(list["l.a"].data))), 4, list)
	wantRun(t, files{}, "CREATE n / ADDMOD s / LIST", told(line("s", len("CREATE n\nADDMOD s\nLIST\n"))), 2, files{})
}

// 19.12: REPLACE puts each file in the place of the first member of its name, or behind all; dates do not matter.
func TestReplace(t *testing.T) {
	list := abac().but("a", file{"older", api.Meta{Date: 1}}).but("b", file{"newer", api.Meta{Date: 99}})
	a, b, x := newLike("a", list["a"]), newLike("b", list["b"]), newLike("x", list["x"])
	old := abacMembers()
	want := gnu(a, b, old[2], old[3], x)
	wantRun(t, list, "OPEN l.a / REPLACE x a b / SAVE", told(), 1+6+6, list.but("l.a", made(want)))
	wantRun(t, list, "OPEN l.a / REPLACE x a b x a / SAVE", told(), 1+10+6, list.but("l.a", made(want)))
	wantRun(t, list, "OPEN l.a / VERBOSE / REPLACE x a b x", told("a - x", "r - a", "r - b", "r - x"), 9, list)
	wantRun(t, list, "CREATE n / VERBOSE / REPLACE a / REPLACE a", told("a - a", "r - a"), 4, list)
	wantRun(t, list, "OPEN l.a / REPLACE x a b x", told(), 9, list)
}

// 19.12: all names are looked at ahead of any call, and the first of them that is refused is told.
func TestNamesAheadOfFiles(t *testing.T) {
	for _, verb := range []string{"ADDMOD", "REPLACE"} {
		wantRun(t, abac(), "CREATE n / VERBOSE / "+verb+" a "+temp+" gone", no(temp, api.ErrReserved), 0, abac())
		wantRun(t, abac(), "CREATE n / VERBOSE / "+verb+" gone "+temp, no(temp, api.ErrReserved), 0, abac())
		wantRun(t, abac(), "CREATE n / VERBOSE / "+verb+" x\x00 "+temp, no(`"x\x00"`, api.ErrFileName), 0, abac())
	}
}

// 19.12: for each name Stat and then ReadFile is called; the first that is refused ends the script, and nothing is told of those ahead.
func TestFilesThatCannotBeRead(t *testing.T) {
	for _, verb := range []string{"ADDMOD", "REPLACE"} {
		wantRun(t, abac(), "CREATE n / VERBOSE / "+verb+" a gone b", no("gone", api.ErrMissing), 3, abac())
		wantRun(t, abac(), "CREATE n / VERBOSE / "+verb+" gone1 gone2", no("gone1", api.ErrMissing), 1, abac())
		wantRun(t, abac(), "CREATE n / VERBOSE / "+verb+" x / "+verb+" x gone", no("gone", api.ErrMissing, map[string]string{"ADDMOD": "q", "REPLACE": "a"}[verb]+" - x"), 5, abac())
		wantStruck(t, abac(), "CREATE n / "+verb+" a b a", "a", "a", "b", "b", "a", "a")
	}
}
