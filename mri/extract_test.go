package mri_test

import (
	"fmt"
	"strings"
	"testing"

	"shelf/api"
	"shelf/mri"
)

// 19.16: each of the found members becomes a file with the clock, who runs the script, the member's mode, and its data; then the directory is made durable.
func TestExtract(t *testing.T) {
	list := abac()
	wantRun(t, list, "OPEN l.a / EXTRACT b", told(), 1+4, list.but("b", unpacked("two!")))
	wantRun(t, list, "OPEN l.a / EXTRACT c", told(), 1+3, list.but("c", unpacked("")))
	wantRun(t, list, "OPEN l.a / EXTRACT a", told(), 1+4, list.but("a", unpacked("one")))
	wantRun(t, list, "OPEN l.a / EXTRACT a a", told(), 1+7, list.but("a", unpacked("three")))
	wantRun(t, list, "OPEN l.a / EXTRACT c b a", told(), 1+9, list.but("a", unpacked("one")).but("b", unpacked("two!")).but("c", unpacked("")))
	modes := []api.Member{{Meta: api.Meta{Date: 3, UID: 4, GID: 5, Mode: 0o100755}, Name: "q", Size: 1, Data: "!"}, {Name: "r"}}
	list = list.but("q.a", put(gnu(modes...)))
	wantRun(t, list, "OPEN q.a / EXTRACT r q", told(), 1+6, list.but("q", file{"!", api.Meta{Date: 100, UID: 7, GID: 8, Mode: 0o100755}}).but("r", file{"", api.Meta{Date: 100, UID: 7, GID: 8}}))
}

// 19.16: what is unpacked is what is open, saved or not.
func TestExtractOfUnsaved(t *testing.T) {
	list := abac()
	wantRun(t, list, "CREATE n / ADDMOD x / EXTRACT x", told(), 2+4, list.but("x", unpacked("ex")))
	wantRun(t, list, "OPEN l.a / DELETE a / EXTRACT a", told(), 1+4, list.but("a", unpacked("three")))
	wantRun(t, list, "CREATE n / ADDLIB m.a / EXTRACT e", told(), 1+4, list.but("e", unpacked("!")))
}

// 19.16: a missing name is refused ahead of any call, the first one is told.
func TestExtractMissing(t *testing.T) {
	for names, name := range map[string]string{"x": "x", "a b x": "x", "y x": "y", "a a a": "a", "l.a": "l.a", temp: temp, "a " + temp: temp} {
		wantRun(t, abac(), "OPEN l.a / VERBOSE / EXTRACT "+names, no(name, api.ErrNoMember), 1, abac())
	}
}

// 19.16: members of the tool's own file's name and of the open archive's are refused in their turn: those ahead are unpacked and told, those behind are not, and the directory is not made durable.
func TestExtractReserved(t *testing.T) {
	for _, name := range []string{"l.a", temp} {
		list := abac().but("l.a", put(gnu(member("a", "one"), member(name, "evil"), member("c", ""))))
		wantRun(t, list, "OPEN l.a / VERBOSE / EXTRACT "+name, no(name, api.ErrReserved), 1, list)
		wantRun(t, list, "OPEN l.a / VERBOSE / EXTRACT a "+name+" c", no(name, api.ErrReserved, "x - a"), 1+3, list.but("a", unpacked("one")))
		wantRun(t, list, "OPEN l.a / VERBOSE / EXTRACT "+name+" a z", no("z", api.ErrNoMember), 1, list)
	}
	list := abac().but("l.a", put(gnu(member("m.a", "not m.a"))))
	wantRun(t, list, "OPEN l.a / EXTRACT m.a", told(), 1+4, list.but("m.a", unpacked("not m.a")))
	wantRun(t, list, "CREATE m.a / ADDLIB l.a / EXTRACT m.a", no("m.a", api.ErrReserved), 1, list)
}

// 19.16: the data are written in pieces of Chunk bytes, the last one what is left; of empty data none.
func TestExtractPieces(t *testing.T) {
	for _, n := range []int{0, 1, 511, 512, 513, 1024, 1025} {
		list := files{"l.a": put(gnu(member("f", filled(n))))}
		wantRun(t, list, "OPEN l.a / EXTRACT f", told(), 1+3+(n+511)/512, list.but("f", unpacked(filled(n))))
		for k := range (n + 511) / 512 {
			f := durable(t, list.but("s", put("OPEN l.a\nEXTRACT f")))
			f.Arm([]api.Fault{{At: 4 + k, Kind: api.FaultShort, N: 1 << 30}})
			what := fmt.Sprintf("%d bytes, the fault after piece %d", n, k)
			wantResult(t, what, mri.Run(f, "s", env), no("f", api.ErrIO))
			wantFiles(t, what, f, list.but("s", put("OPEN l.a\nEXTRACT f")).but("f", unpacked(filled(n)[:min(n, 512*(k+1))])))
		}
	}
}

// 19.16: each member is told as soon as it is unpacked, if verbose is on.
func TestExtractTold(t *testing.T) {
	wantRun(t, abac(), "OPEN l.a / VERBOSE / EXTRACT c a b", told("x - c", "x - a", "x - b"), 1+9, abac().but("a", unpacked("one")).but("b", unpacked("two!")).but("c", unpacked("")))
	text := script("OPEN l.a / VERBOSE / DELETE c / EXTRACT a b")
	for at, out := range map[int][]string{3: {"d - c"}, 4: {"d - c"}, 5: {"d - c"}, 6: {"d - c", "x - a"}, 7: {"d - c", "x - a"}, 8: {"d - c", "x - a"}, 9: {"d - c", "x - a", "x - b"}} {
		for _, kind := range kinds() {
			f := durable(t, abac().but("s", put(text)))
			f.Arm([]api.Fault{{At: at, Kind: kind}})
			name := []string{"a", "a", "a", "b", "b", "b", "l.a"}[at-3]
			wantResult(t, fmt.Sprintf("fault %d at call %d", kind, at), mri.Run(f, "s", env), no(name, struck(kind), out...))
			wantCalls(t, fmt.Sprintf("fault %d at call %d", kind, at), f, at)
		}
	}
}

// 19.16: each call that is refused, with the name that is told: the member's, but the open archive's for the directory.
func TestExtractStruck(t *testing.T) {
	wantStruck(t, abac(), "OPEN l.a / EXTRACT c a b", "l.a", "c", "c", "a", "a", "a", "b", "b", "b", "l.a")
	wantStruck(t, abac(), "CREATE n / ADDMOD x / EXTRACT x", "x", "x", "x", "x", "x", "n")
}

// 19.16: what the volume itself refuses: a member's name that is no file's, too many names, no room.
func TestExtractRefusedByVolume(t *testing.T) {
	long := strings.Repeat("n", 65)
	list := files{"l.a": put(regular(part("#1/65", own, long+"x"), part("ok", own, "fine")))}
	wantRun(t, list, "OPEN l.a / VERBOSE / EXTRACT ok "+long, no(long, api.ErrFileName, "x - ok"), 1+3+1, list.but("ok", unpacked("fine")))
	many := files{"l.a": put(gnu(member("f", "x"), member("00", "y")))}
	for i := range 62 {
		many[fmt.Sprintf("%02d", i)] = put("")
	}
	wantRun(t, many, "OPEN l.a / EXTRACT 00 f", no("f", api.ErrMany), 1+3+1, many.but("00", unpacked("y")))
	small := files{"l.a": put(gnu(member("f", filled(700)))), "s": put("OPEN l.a\nEXTRACT f\n")}
	f := roomFor(t, len(small["l.a"].data)+len(small["s"].data)+600, small)
	wantResult(t, "no room", mri.Run(f, "s", env), no("f", api.ErrFull))
	wantCalls(t, "no room", f, 2+3)
	wantFiles(t, "no room", f, small.but("f", unpacked(filled(512))))
}

// 19.16: when EXTRACT has answered OK a power cut takes nothing of what it has unpacked.
func TestExtractLasts(t *testing.T) {
	want := abac().but("a", unpacked("three")).but("b", unpacked("two!")).but("c", unpacked("")).but("s", put(script("OPEN l.a / EXTRACT a a b c")))
	for dirOps := range 6 {
		f, got := run(t, abac(), script("OPEN l.a / EXTRACT a a b c"), env)
		wantResult(t, "EXTRACT", got, told())
		f.Restart(dirOps, nil)
		wantFiles(t, fmt.Sprintf("EXTRACT, restart %d", dirOps), f, want)
	}
}
