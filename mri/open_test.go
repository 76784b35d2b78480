package mri_test

import (
	"strings"
	"testing"

	"shelf/api"
)

// 19.11: CREATE makes no call, and asks nothing of a file that is there.
func TestCreate(t *testing.T) {
	list := abac().but("t.a", put("!<thin>\n")).but("broken", put("!<arch>\nx"))
	for _, name := range []string{"n", "l.a", "m.a", "t.a", "broken", "x", "s", "@x", "-v", "\xff", strings.Repeat("n", 64)} {
		wantRun(t, list, "CREATE "+name+" / LIST", told(), 0, list)
	}
}

// 19.11: what CREATE has opened is a GNU archive without members, whatever stands in a file of that name, and takes its place at a SAVE alone.
func TestCreateAndSave(t *testing.T) {
	list := abac().but("t.a", put("!<thin>\n")).but("bsd.a", put(bsd(member("b", "b")))).but("broken", put("x"))
	for _, name := range []string{"n", "l.a", "t.a", "bsd.a", "broken"} {
		wantRun(t, list, "CREATE "+name+" / SAVE", told(), 6, list.but(name, made(regular())))
		wantRun(t, list, "CREATE "+name+" / ADDMOD x / SAVE", told(), 8, list.but(name, made(gnu(member("x", "ex")))))
	}
}

// 19.11: OPEN has the archive's kind and its members, with all their fields.
func TestOpen(t *testing.T) {
	wantRun(t, abac(), "OPEN l.a / LIST", told(line("a", 3), line("b", 4), line("a", 5), line("c", 0)), 1, abac())
	wantRun(t, abac(), "OPEN m.a / LIST", told(line("b", 4), line("e", 1)), 1, abac())
	wantRun(t, abac(), "OPEN l.a / SAVE", told(), 7, abac().but("l.a", made(gnu(abacMembers()...))))
	wantRun(t, abac(), "OPEN m.a / SAVE", told(), 7, abac().but("m.a", made(bsd(member("b", "in m"), member("e", "!")))))
	wantRun(t, abac(), "OPEN m.a / ADDMOD x / SAVE", told(), 9, abac().but("m.a", made(bsd(member("b", "in m"), member("e", "!"), member("x", "ex")))))
	wantRun(t, abac(), "OPEN m.a / CLEAR / ADDMOD x / SAVE", told(), 9, abac().but("m.a", made(bsd(member("x", "ex")))))
	wantRun(t, abac().but("e.a", put(regular())), "OPEN e.a / LIST", told(), 1, abac().but("e.a", put(regular())))
}

// 19.11: a thin archive is refused, behind its loading.
func TestOpenThin(t *testing.T) {
	for _, data := range []string{thin(), thin(member("a", "file a")), thin(member("gone", "x"))} {
		list := abac().but("t.a", put(data))
		wantRun(t, list, "OPEN t.a", no("t.a", api.ErrKind), 1, list)
		wantRun(t, list, "OPEN l.a / OPEN t.a / LIST", no("t.a", api.ErrKind), 2, list)
	}
	list := abac().but("t.a", put("!<thin>\nx"))
	wantRun(t, list, "OPEN t.a", no("t.a", api.ErrShort), 1, list)
}

// 19.11: an archive that was open ahead is given up, with all that was not saved.
func TestOpenAnother(t *testing.T) {
	wantRun(t, abac(), "OPEN l.a / CLEAR / OPEN m.a / SAVE", told(), 8, abac().but("m.a", made(bsd(member("b", "in m"), member("e", "!")))))
	wantRun(t, abac(), "OPEN l.a / ADDMOD x / CREATE n / LIST / SAVE", told(), 9, abac().but("n", made(regular())))
	wantRun(t, abac(), "CREATE n / ADDMOD x / OPEN m.a / LIST", told(line("b", 4), line("e", 1)), 3, abac())
	wantRun(t, abac(), "OPEN m.a / CREATE n / ADDMOD x / SAVE", told(), 9, abac().but("n", made(gnu(member("x", "ex")))))
}

// 19.11: the same name may be opened again: its file is read anew, or it is empty again.
func TestOpenTheSame(t *testing.T) {
	wantRun(t, abac(), "OPEN l.a / DELETE a a / OPEN l.a / DELETE b / LIST", told(line("a", 3), line("a", 5), line("c", 0)), 2, abac())
	wantRun(t, abac(), "CREATE l.a / ADDMOD x / CREATE l.a / LIST", told(), 2, abac())
	wantRun(t, abac(), "CREATE l.a / ADDMOD x / OPEN l.a / DELETE a b / LIST", told(line("a", 5), line("c", 0)), 3, abac())
	wantRun(t, abac(), "OPEN l.a / CREATE l.a / ADDMOD x / SAVE / OPEN l.a / LIST", told(line("x", 2)), 10, abac().but("l.a", made(gnu(member("x", "ex")))))
	wantRun(t, abac(), "CREATE n / ADDMOD x / OPEN n", no("n", api.ErrMissing), 3, abac())
}

// 19.11: verbose is not the archive's: it stays when another one is opened.
func TestVerboseStays(t *testing.T) {
	wantRun(t, abac(), "OPEN l.a / VERBOSE / CREATE n / ADDMOD x / OPEN l.a / DELETE c", told("q - x", "d - c"), 4, abac())
}
