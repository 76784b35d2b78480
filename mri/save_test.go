package mri_test

import (
	"fmt"
	"strings"
	"testing"

	"shelf/api"
	"shelf/mri"
)

// objects are files with symbols, and archives of both kinds with one of them and without an index.
func objects() files {
	o := member("o", object("f", "g"))
	return files{"o": put(object("f", "g")), "p": put(object("h")), "x": put("ex"), "g.a": put(gnu(o)), "b.a": put(bsd(o))}
}

// 19.17: the archive is built anew with its index, dated by the clock.
func TestSaveWithIndex(t *testing.T) {
	list := objects()
	stamp := api.Meta{Date: env.Now}
	o, p := object("f", "g"), object("h")
	content := narrow(entry{"f", 8 + 60 + 22}, entry{"g", 8 + 60 + 22}, entry{"h", 8 + 60 + 22 + 60 + len(padded(o))})
	want := regular(part("/", stamp, content), part("o/", own, o), part("p/", own, p))
	calls := 5 + (len(want)+511)/512
	wantRun(t, list, "CREATE n / ADDMOD o p / SAVE", told(), 4+calls, list.but("n", made(want)))
	wantRun(t, list, "OPEN g.a / ADDMOD p / SAVE", told(), 3+calls, list.but("g.a", made(want)))
	content = symdef(entry{"f", 8 + 60 + 28}, entry{"g", 8 + 60 + 28})
	want = regular(part("__.SYMDEF", stamp, content), part("o", own, o))
	wantRun(t, list, "OPEN b.a / SAVE", told(), 1+5+(len(want)+511)/512, list.but("b.a", made(want)))
}

// saveAt is what a SAVE answers, and the archive that it leaves, with this threshold.
func saveAt(t *testing.T, bars, archive string, wide int) (api.Result, string) {
	t.Helper()
	e := env
	e.Wide = wide
	f, got := run(t, objects(), script(bars), e)
	return got, look(t, f)[archive].data
}

// 19.17: the threshold is env.Wide, and Wide32 if that is 0; the first place that is not below it calls for the wide index.
func TestSaveThreshold(t *testing.T) {
	o := object("f", "g")
	stamp := api.Meta{Date: env.Now}
	at := 8 + 60 + 16
	is32 := regular(part("/", stamp, narrow(entry{"f", at}, entry{"g", at})), part("o/", own, o))
	is64 := regular(part("/SYM64/", stamp, wide(entry{"f", at + 12}, entry{"g", at + 12})), part("o/", own, o))
	for wide, want := range map[int]string{0: is32, api.Wide32: is32, at + 1: is32, at: is64, at - 1: is64, 1: is64} {
		for bars, archive := range map[string]string{"OPEN g.a / SAVE": "g.a", "CREATE n / ADDMOD o / SAVE": "n"} {
			got, data := saveAt(t, bars, archive, wide)
			wantResult(t, fmt.Sprintf("%s, threshold %d", bars, wide), got, told())
			if data != want {
				t.Errorf("19.17: %s, threshold %d: %q, want %q", bars, wide, data, want)
			}
		}
	}
}

// 19.17: what pack refuses is told with the open archive's name, ahead of any call of commit.
func TestSaveRefusedByPack(t *testing.T) {
	for _, wide := range []int{-1, api.Wide32 + 1} {
		for _, bars := range []string{"OPEN g.a / SAVE", "OPEN g.a / CLEAR / SAVE"} {
			got, _ := saveAt(t, bars, "g.a", wide)
			wantResult(t, fmt.Sprintf("%s, threshold %d", bars, wide), got, no("g.a", api.ErrRange))
		}
	}
	got, _ := saveAt(t, "OPEN b.a / SAVE", "b.a", 50)
	wantResult(t, "BSD, threshold 50", got, no("b.a", api.ErrFar))
	late := objects().but("late", file{"x", api.Meta{Date: -1}}).but("far", file{"x", api.Meta{UID: 1000000}})
	for name := range map[string]int{"late": 1, "far": 1} {
		wantRun(t, late, "VERBOSE / CREATE n / ADDMOD "+name+" / SAVE / LIST", no("n", api.ErrWide, "q - "+name), 2, late)
		wantRun(t, late, "OPEN g.a / ADDMOD "+name+" / SAVE", no("g.a", api.ErrWide), 3, late)
	}
	e := env
	e.Now = -1
	f, got := run(t, objects(), script("OPEN g.a / SAVE"), e)
	wantResult(t, "the clock does not fit", got, no("g.a", api.ErrWide))
	wantCalls(t, "the clock does not fit", f, 2)
}

// 19.17: more members than an archive may have: they can be held, listed and taken out, but not saved.
func TestSaveTooManyMembers(t *testing.T) {
	text := "CREATE n\nADDMOD" + strings.Repeat(" x", api.MaxMembers+1) + "\nSAVE\n"
	f := roomFor(t, 1<<20, files{"s": put(text), "x": put("")})
	wantResult(t, "too many members", mri.Run(f, "s", env), no("n", api.ErrRange))
	wantCalls(t, "too many members", f, 1+2*(api.MaxMembers+1))
}

// 19.17: each call of commit that is refused is told with the open archive's name; the last one with ErrUnsure.
func TestSaveStruck(t *testing.T) {
	wantStruck(t, abac(), "OPEN l.a / DELETE a / SAVE", append([]string{"l.a"}, replacing("l.a", 500)...)...)
	big := files{"f": put(filled(1000))}
	wantStruck(t, big, "CREATE n / ADDMOD f / SAVE", append([]string{"f", "f"}, replacing("n", 8+60+1000)...)...)
}

// 19.17: no room for the new archive: the old one stays.
func TestSaveWithoutRoom(t *testing.T) {
	list := files{"f": put(filled(600)), "n": put("old"), "s": put("CREATE n\nADDMOD f\nSAVE\n")}
	f := roomFor(t, 600+3+len(list["s"].data)+600, list)
	wantResult(t, "no room", mri.Run(f, "s", env), no("n", api.ErrFull))
	wantCalls(t, "no room", f, 3+5)
	wantFiles(t, "no room", f, list)
}

// 19.17: the file has the clock, who runs the script, and mode 644, whatever it had.
func TestSaveMeta(t *testing.T) {
	list := files{"n": {regular(), api.Meta{Date: 1, UID: 2, GID: 3, Mode: 4}}}
	for _, e := range []api.Env{{}, {Now: 55, UID: 66, GID: 77}, {Now: -9, UID: -8, GID: 1 << 40}} {
		f, got := run(t, list, "OPEN n\nSAVE\n", e)
		wantResult(t, "OPEN n, SAVE", got, told())
		wantFiles(t, "OPEN n, SAVE", f, files{"n": {regular(), api.Meta{Date: e.Now, UID: e.UID, GID: e.GID, Mode: 0o644}}, "s": put("OPEN n\nSAVE\n")})
	}
}

// 19.17: the archive stays open with its members, and can be saved again.
func TestSaveTwice(t *testing.T) {
	old := abacMembers()
	x := member("x", "ex")
	wantRun(t, abac(), "OPEN l.a / SAVE / SAVE", told(), 1+12, abac().but("l.a", made(gnu(old...))))
	wantRun(t, abac(), "OPEN l.a / DELETE a / SAVE / ADDMOD x / LIST / SAVE", told(line("b", 4), line("a", 5), line("c", 0), line("x", 2)), 1+6+2+6, abac().but("l.a", made(gnu(old[1], old[2], old[3], x))))
	wantRun(t, abac(), "CREATE n / ADDMOD x / SAVE / CLEAR / SAVE", told(), 2+12, abac().but("n", made(regular())))
	wantRun(t, abac(), "CREATE n / ADDMOD x / SAVE / CLEAR", told(), 2+6, abac().but("n", made(gnu(x))))
	wantRun(t, abac(), "CREATE n / SAVE / OPEN m.a / DELETE b / SAVE", told(), 6+1+6, abac().but("n", made(regular())).but("m.a", made(bsd(member("e", "!")))))
}

// 19.17: nothing is told, also if verbose is on; a file that the tool left over does no harm.
func TestSaveTellsNothing(t *testing.T) {
	wantRun(t, abac(), "VERBOSE / OPEN l.a / SAVE", told(), 1+6, abac().but("l.a", made(gnu(abacMembers()...))))
	wantRun(t, abac().but(temp, put("left")), "VERBOSE / OPEN l.a / SAVE", told(), 1+6, abac().but("l.a", made(gnu(abacMembers()...))))
}

// 19.17: the script's own file may be the archive that is saved: it has been read by then.
func TestSaveOverTheScript(t *testing.T) {
	f, got := run(t, abac(), script("CREATE s / ADDMOD x / SAVE / LIST"), env)
	wantResult(t, "CREATE s", got, told(line("x", 2)))
	wantFiles(t, "CREATE s", f, abac().but("s", made(gnu(member("x", "ex")))))
}

// 19.17: a long name goes where the kind has it.
func TestSaveLongNames(t *testing.T) {
	name := strings.Repeat("n", 30)
	list := files{name: put("!"), "b.a": put(bsd(member("b", "b")))}
	wantRun(t, list, "CREATE n / ADDMOD "+name+" / SAVE", told(), 2+6, list.but("n", made(regular(part("//", api.Meta{}, name+"/\n"), part("/0", own, "!")))))
	wantRun(t, list, "OPEN b.a / REPLACE "+name+" / SAVE", told(), 3+6, list.but("b.a", made(regular(part("b", own, "b"), part("#1/30", own, name+"!")))))
}
