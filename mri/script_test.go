package mri_test

import (
	"fmt"
	"strings"
	"testing"

	"shelf/api"
	"shelf/mri"
)

// abac are files, and the archive l.a with two members a, one b and one c.
func abac() files {
	return files{
		"a": put("file a"), "b": put("file b!"), "x": put("ex"), "y": file{"", api.Meta{Date: 9, Mode: 0o755}},
		"l.a": put(gnu(abacMembers()...)), "m.a": put(bsd(member("b", "in m"), member("e", "!"))),
	}
}

// abacMembers are the members of l.a.
func abacMembers() []api.Member {
	return []api.Member{member("a", "one"), member("b", "two!"), member("a", "three"), member("c", "")}
}

// line is a member's line of a long table of contents, with the Meta of tests.
func line(name string, size int) string {
	return fmt.Sprintf("rw-r----- 1/2 %6d Jan  1 00:00 1970 %s", size, name)
}

// 19.8: the tool's own file is no script, and is not read, also if there is a script in it.
func TestOwnFileIsNoScript(t *testing.T) {
	for _, list := range []files{{}, {temp: put("")}, {temp: put("CREATE n\nSAVE\n")}} {
		f := durable(t, list)
		wantResult(t, "the tool's own file", mri.Run(f, temp, env), no(temp, api.ErrReserved))
		wantCalls(t, "the tool's own file", f, 0)
		wantFiles(t, "the tool's own file", f, list)
	}
}

// 19.8: a script's file that cannot be read, whatever its name is.
func TestScriptThatCannotBeRead(t *testing.T) {
	long := strings.Repeat("n", 65)
	for name, want := range map[string]api.Result{
		"gone": no("gone", api.ErrMissing), "a b": no(`"a b"`, api.ErrMissing), "": no("", api.ErrFileName), "x/y": no("x/y", api.ErrFileName), "ar.tmp": no("ar.tmp", api.ErrMissing), long: no(long, api.ErrFileName),
	} {
		f := durable(t, abac())
		wantResult(t, name, mri.Run(f, name, env), want)
		wantCalls(t, name, f, 1)
	}
	for _, kind := range kinds() {
		f := durable(t, files{"s": put("")})
		f.Arm([]api.Fault{{At: 1, Kind: kind}})
		wantResult(t, fmt.Sprintf("fault %d", kind), mri.Run(f, "s", env), no("s", struck(kind)))
		wantCalls(t, fmt.Sprintf("fault %d", kind), f, 1)
	}
}

// 19.8: with the power off nothing is counted, and nothing done.
func TestPowerIsOff(t *testing.T) {
	f := durable(t, files{"s": put("CREATE n\nSAVE\n")})
	f.Arm([]api.Fault{{At: 1, Kind: api.FaultDown}})
	f.SyncDir()
	wantResult(t, "power off", mri.Run(f, "s", env), no("s", api.ErrDown))
	wantCalls(t, "power off", f, 1)
	f.Restart(9, nil)
	wantFiles(t, "power off", f, files{"s": put("CREATE n\nSAVE\n")})
}

// 19.8: of a script that is refused nothing is carried out; its file is told, the line is not.
func TestRefusedScript(t *testing.T) {
	for bars, code := range map[string]api.Errno{
		"FOO": api.ErrVerb, "CREATE n / SAVE / FOO": api.ErrVerb, "VERBOSE / DIRECTORY l.a / DELETE": api.ErrList, "CREATE n / SAVE / END / LIST x": api.ErrList, "OPEN l.a / CLEAR / SAVE / ADDLIB (": api.ErrList, "SAVE / (": api.ErrVerb,
	} {
		wantRun(t, abac(), bars, no("s", code), 0, abac())
	}
	f := durable(t, files{"the script": put("\nFOO")})
	wantResult(t, "FOO", mri.Run(f, "the script", env), no(`"the script"`, api.ErrVerb))
}

// 19.8: a script without commands, and any bytes as a script's name.
func TestEmptyScripts(t *testing.T) {
	for _, bars := range []string{"", "/", "* remark", "+", "END", "; / END"} {
		wantRun(t, abac(), bars, told(), 0, abac())
	}
	for _, name := range []string{"\xff", "a b", ".", "+", strings.Repeat("n", 64)} {
		f := durable(t, files{name: put("CREATE n\nSAVE\n")})
		wantResult(t, name, mri.Run(f, name, env), told())
		wantFiles(t, name, f, files{name: put("CREATE n\nSAVE\n"), "n": made(regular())})
	}
}

// 19.8: an END ends the script with what was told so far; what is behind it is not carried out.
func TestEnd(t *testing.T) {
	wantRun(t, abac(), "CREATE n / END / SAVE", told(), 0, abac())
	wantRun(t, abac(), "END / SAVE / OPEN gone", told(), 0, abac())
	wantRun(t, abac(), "DIRECTORY l.a (b) / END / DIRECTORY l.a (a) / END", told("b"), 1, abac())
	wantRun(t, abac(), "DIRECTORY l.a (b) / DIRECTORY l.a (a)", told("b", "a"), 2, abac())
	wantRun(t, abac(), "CREATE n / SAVE / END / CREATE m / SAVE", told(), 6, abac().but("n", made(regular())))
}

// 19.8: a refusal ends the script there, with what was told so far.
func TestRefusalEndsTheScript(t *testing.T) {
	wantRun(t, abac(), "DIRECTORY l.a (b) / OPEN gone / DIRECTORY l.a (a)", no("gone", api.ErrMissing, "b"), 2, abac())
	wantRun(t, abac(), "OPEN l.a / VERBOSE / DELETE a / DELETE x / SAVE", no("x", api.ErrNoMember, "d - a"), 1, abac())
	wantRun(t, abac(), "CREATE n / SAVE / LIST / SAVE x / END", no("s", api.ErrList), 0, abac())
}

// 19.9: nothing is kept behind a script, and verbose is off at first.
func TestNothingIsKept(t *testing.T) {
	f := durable(t, abac())
	next := func(bars string, want api.Result) {
		t.Helper()
		h, err := f.Create("s", own)
		must(t, err)
		_, err = h.Write(script(bars))
		must(t, err)
		wantResult(t, bars, mri.Run(f, "s", env), want)
	}
	next("OPEN l.a / DELETE b", told())
	next("VERBOSE / OPEN l.a / DELETE b", told("d - b"))
	next("LIST", no("", api.ErrNoOpen))
	next("SAVE", no("", api.ErrNoOpen))
	next("OPEN l.a / DELETE b / ADDMOD x / REPLACE y", told())
	next("DIRECTORY l.a (a)", told("a"))
	wantFiles(t, "19.9", f, abac().but("s", put(script("DIRECTORY l.a (a)"))))
}

// 19.9: two runs on two volumes have nothing in common.
func TestTwoVolumes(t *testing.T) {
	first, _ := run(t, abac(), script("VERBOSE / OPEN l.a / CLEAR"), env)
	second, got := run(t, abac(), script("LIST"), env)
	wantResult(t, "LIST", got, no("", api.ErrNoOpen))
	wantCalls(t, "LIST", second, 1)
	wantCalls(t, "OPEN", first, 2)
}

// badNames are names that a script may not name as files.
func badNames() map[string]api.Errno {
	return map[string]api.Errno{temp: api.ErrReserved, "x/y": api.ErrFileName, "/": api.ErrFileName, "n\x00": api.ErrFileName, strings.Repeat("n", 65): api.ErrFileName}
}

// quoted is a name as messages have it.
func quoted(name string) string {
	if name == "n\x00" {
		return `"n\x00"`
	}
	return name
}

// 19.10: named: every name of a file is looked at ahead of its call.
func TestNamed(t *testing.T) {
	for name, code := range badNames() {
		for _, c := range []api.Mri{of(api.MriCreate, name), of(api.MriOpen, name), of(api.MriDirectory, name), of(api.MriDirectory, name, "a")} {
			wantCommands(t, "", no(quoted(name), code), c)
		}
		for _, c := range []api.Mri{
			of(api.MriAddLib, name), of(api.MriAddLib, name, "a"), of(api.MriAddMod, "", name), of(api.MriReplace, "", name), of(api.MriAddMod, "", "a", "gone", name), of(api.MriReplace, "", "gone", name, "a"), of(api.MriAddMod, "", name, "x/y/z", temp),
		} {
			wantCommands(t, "CREATE n\n", no(quoted(name), code), c)
		}
	}
}

// wantCommands: the commands behind some text answer this, without a call beside the reading of the script, and leave all as it was.
func wantCommands(t *testing.T, ahead string, want api.Result, list ...api.Mri) {
	t.Helper()
	text := ahead + mri.Text(list)
	f, got := run(t, abac(), text, env)
	wantResult(t, text, got, want)
	wantCalls(t, text, f, 1)
	wantFiles(t, text, f, abac().but("s", put(text)))
}

// 19.10: names of members are no files' names: any of them may be asked for.
func TestMembersAreNotNamed(t *testing.T) {
	for name := range badNames() {
		for _, c := range []api.Mri{of(api.MriDelete, "", name), of(api.MriExtract, "", name)} {
			wantCommands(t, "CREATE n\n", no(quoted(name), api.ErrNoMember), c)
		}
		text := mri.Text([]api.Mri{of(api.MriDirectory, "l.a", "a", name)})
		_, got := run(t, abac(), text, env)
		wantResult(t, text, got, no(quoted(name), api.ErrNoMember))
	}
}

// 19.10: loaded: a file that cannot be read, is missing, or is no archive.
func TestLoaded(t *testing.T) {
	whole := gnu(member("a", "one"))
	list := abac().but("cut", put(whole[:len(whole)-1])).but("short", put(whole+"x")).but("bad", put(strings.Replace(whole, "`", "'", 1))).but("empty", put(""))
	for name, code := range map[string]api.Errno{"gone": api.ErrMissing, "x": api.ErrMagic, "empty": api.ErrMagic, "cut": api.ErrPad, "short": api.ErrShort, "bad": api.ErrTail, "s": api.ErrMagic} {
		wantRun(t, list, "OPEN "+name, no(name, code), 1, list)
		wantRun(t, list, "CREATE n / ADDLIB "+name, no(name, code), 1, list)
		wantRun(t, list, "CREATE n / ADDLIB "+name+" (a)", no(name, code), 1, list)
		wantRun(t, list, "DIRECTORY "+name, no(name, code), 1, list)
	}
	for _, bars := range []string{"OPEN l.a", "CREATE n / ADDLIB l.a", "DIRECTORY l.a", "DIRECTORY l.a (z)"} {
		wantStruck(t, abac(), bars, "l.a")
	}
}

// 19.10: without an open archive eight verbs are refused ahead of everything else; the others want none.
func TestNoOpenArchive(t *testing.T) {
	for _, c := range []string{"ADDMOD a", "ADDMOD " + temp, "ADDMOD x\x00", "ADDLIB l.a", "ADDLIB " + temp, "ADDLIB gone (z)", "DELETE a", "REPLACE a", "REPLACE gone", "EXTRACT a", "EXTRACT " + temp, "LIST", "CLEAR", "SAVE"} {
		wantRun(t, abac(), c, no("", api.ErrNoOpen), 0, abac())
		wantRun(t, abac(), "DIRECTORY l.a (c) / VERBOSE / "+c+" / CREATE n", no("", api.ErrNoOpen, "c"), 1, abac())
	}
	for bars, calls := range map[string]int{"CREATE n": 0, "OPEN l.a": 1, "DIRECTORY l.a ()": 1, "VERBOSE": 0, "END": 0} {
		if _, got := run(t, abac(), script(bars), env); got.Code != api.OK {
			t.Errorf("19.10: %s: %q", bars, got.Msg)
		}
		f, _ := run(t, abac(), script(bars), env)
		wantCalls(t, bars, f, calls+1)
	}
}
