package salvage_test

import (
	"fmt"
	"maps"
	"math"
	"slices"
	"strings"
	"testing"

	"shelf/api"
	"shelf/salvage"
)

// badA has a damage of sixty bytes, and goodA is what can be read of it.
var (
	badA  = regular + xs + h("b/", 2) + "hi"
	goodA = regular + h("b/", 2) + "hi"
	badAt = bad(8, 60, api.ErrTail)
)

// long is a name of n bytes.
func long(n int) string { return strings.Repeat("n", n) }

// 22.6: names that are refused ahead of any call, in the chapter's order, whatever the file from is, also with the power off.
func TestRefusedAheadOfCalls(t *testing.T) {
	list := files{"bad.a": put(badA), temp: put(badA), "old": put("old")}
	for _, x := range []struct {
		from, to string
		want     api.Result
	}{
		{temp, "new", no(temp, api.ErrReserved)}, {temp, temp, no(temp, api.ErrReserved)}, {temp, "a/b", no(temp, api.ErrReserved)}, {temp, "", no(temp, api.ErrReserved)},
		{"bad.a", temp, no(temp, api.ErrReserved)}, {"none", temp, no(temp, api.ErrReserved)}, {"x/y", temp, no(temp, api.ErrReserved)}, {"", temp, no(temp, api.ErrReserved)},
		{"bad.a", "", no(`""`, api.ErrFileName)}, {"none", "a/b", no("a/b", api.ErrFileName)}, {"x/y", "/", no("/", api.ErrFileName)}, {"old", "a\x00b", no(`"a\x00b"`, api.ErrFileName)},
		{"bad.a", long(65), no(long(65), api.ErrFileName)}, {"bad.a", "a /b", no(`"a /b"`, api.ErrFileName)},
	} {
		wantRun(t, list, x.from, x.to, env, x.want, 0, list)
		f := durable(t, list)
		f.Arm([]api.Fault{{At: 1, Kind: api.FaultDown}})
		f.SyncDir()
		wantResult(t, fmt.Sprintf("with the power off: Run(%q, %q)", x.from, x.to), salvage.Run(f, x.from, x.to, env), x.want)
	}
}

// 22.6: a file that cannot be read, by one call, and its name in the message as it is quoted.
func TestFromRefused(t *testing.T) {
	list := files{"bad.a": put(badA), "old": put("old")}
	for _, to := range []string{"new", "old", "bad.a"} {
		for from, want := range map[string]api.Result{
			"none": no("none", api.ErrMissing), "a b": no(`"a b"`, api.ErrMissing), "a\nb": no(`"a\nb"`, api.ErrMissing), long(64): no(long(64), api.ErrMissing), "\xff": no(`"\xff"`, api.ErrMissing),
			"": no(`""`, api.ErrFileName), "a/b": no("a/b", api.ErrFileName), long(65): no(long(65), api.ErrFileName), "a\x00": no(`"a\x00"`, api.ErrFileName),
		} {
			wantRun(t, list, from, to, env, want, 1, list)
		}
	}
	for _, kind := range kinds() {
		f := durable(t, list)
		f.Arm([]api.Fault{{At: 1, Kind: kind, N: 3}})
		wantResult(t, fmt.Sprint("struck by ", kind), salvage.Run(f, "bad.a", "old", env), no("bad.a", struck(kind)))
		wantCalls(t, fmt.Sprint("struck by ", kind), f, 1)
		f.Restart(0, nil)
		wantFiles(t, fmt.Sprint("struck by ", kind), f, list)
	}
}

// 22.6: what is saved, by which calls, from one file to another or to itself, in a name that is there or is not, and the words about no damage, one, and several.
func TestSaved(t *testing.T) {
	for _, x := range []struct {
		from, to string
		damages  []api.Damage
	}{
		{regular, regular, nil},
		{thin, thin, nil},
		{"", regular, lost(bad(0, 0, api.ErrMagic))},
		{"no archive", regular, lost(bad(0, 10, api.ErrMagic))},
		{goodA, goodA, nil},
		{badA, goodA, lost(badAt)},
		{h("b/", 2) + "hi", goodA, lost(bad(0, 0, api.ErrMagic))},
		{regular + whole("/", "idx") + h("b/", 2) + "hi", goodA, nil}, // no symbol, no index
		{regular + "x" + h("a", 0) + "yz" + h("b/", 0) + h("c d", 0), regular + h("a", 0) + h("#1/3", 3) + "c d\n", lost(bad(8, 1, api.ErrTail), bad(69, 62, api.ErrTail))},
		{regular + whole("//", "d/\nseventeen.bytes.o/\n") + h("/0", 0) + h("/3", 0) + "?", regular + head("//", api.Meta{}, 19) + "seventeen.bytes.o/\n\n" + h("d/", 0) + h("/0", 0), lost(bad(210, 1, api.ErrShort))},
	} {
		others := files{"old": put("old"), "other": put(badA)}
		for _, to := range []string{"from", "old", "new"} {
			before := others.but("from", put(x.from))
			wantRun(t, before, "from", to, env, telling(x.damages...), 6+pieces(len(x.to)), before.but(to, made(x.to)))
		}
	}
}

// 22.6: the words of each damage.
func TestWordsOfDamages(t *testing.T) {
	b := regular + h("/x", 0) + h("a/", 0) + h("b", 0) + h("c/", 0) + h("/", 0) + h("d/", 0) + h("/7", 0) + h("e/", 0) + h("x/", 1) + "xy" + h("f/", 0) + noField(h("x/", 0)) + h("g/", 0) + h("x/", 999) + h("h/", 0) + "x"
	out := strings.Join([]string{
		"damage at 8, 60 bytes: bad member name", "damage at 128, 60 bytes: mixed name forms", "damage at 248, 60 bytes: misplaced special member", "damage at 368, 60 bytes: bad long name",
		"damage at 488, 62 bytes: bad padding", "damage at 610, 60 bytes: bad header field", "damage at 730, 60 bytes: member truncated", "damage at 850, 1 bytes: header truncated", "",
	}, "\n")
	wantResult(t, "each damage", salvage.Run(durable(t, files{"bad.a": put(b)}), "bad.a", "new", env), api.Result{Out: out, Code: api.ErrDamage})
}

// 22.6: an index is made anew, dated by the clock, in the form that the threshold calls for.
func TestThreshold(t *testing.T) {
	f, g := object("f"), object("g")
	odd := strings.Repeat("\n", len(f)%2)
	members := h("a/", len(f)) + f + odd + h("b/", len(g)) + g + odd + h("c/", 1) + "x\n"
	stamp := api.Meta{Date: 100}
	at32, at64 := 8+60+16, 8+60+28
	next := 60 + len(f) + len(odd)
	narrow := regular + head("/", stamp, 16) + index32(api.Entry{Name: "f", At: at32}, api.Entry{Name: "g", At: at32 + next}) + members
	wide := regular + head("/SYM64/", stamp, 28) + "\x00\x00\x00\x00\x00\x00\x00\x02" + string([]byte{0, 0, 0, 0, 0, 0, byte(at64 >> 8), byte(at64), 0, 0, 0, 0, 0, 0, byte((at64 + next) >> 8), byte(at64 + next)}) + "f\x00g\x00" + members
	for threshold, want := range map[int]string{0: narrow, 1 << 32: narrow, at32 + next + 1: narrow, at32 + next: wide, at32: wide, 1: wide} {
		for _, ahead := range []string{"", xs, whole("/", "idx"), whole("/SYM64/", "old index")} {
			env := api.Env{Now: 100, UID: 7, GID: 8, Wide: threshold}
			list := files{"a": put(regular + ahead + members)}
			var damages []api.Damage
			if ahead == xs {
				damages = lost(badAt)
			}
			wantRun(t, list, "a", "new", env, telling(damages...), 6+pieces(len(want)), list.but("new", made(want)))
		}
	}
}

// 22.6: what pack refuses is refused at the new name, behind one call.
func TestRefusedByPack(t *testing.T) {
	f := object("f")
	list := files{"gnu": put(regular + whole("a/", f)), "bsd": put(regular + "?" + whole("a", f)), "plain": put(badA), "old": put("old")}
	refused := func(from string, env api.Env, e api.Errno) {
		t.Helper()
		for _, to := range []string{"new", "old", "a b"} {
			quoted := to
			if to == "a b" {
				quoted = `"a b"`
			}
			wantRun(t, list, from, to, env, no(quoted, e), 1, list)
		}
	}
	for _, wide := range []int{-1, 1<<32 + 1, math.MinInt, math.MaxInt} {
		for _, from := range []string{"gnu", "bsd", "plain"} {
			refused(from, api.Env{Now: 100, UID: 7, GID: 8, Wide: wide}, api.ErrRange)
		}
	}
	for _, now := range []int{-1, 1000000000000, math.MinInt, math.MaxInt} {
		refused("gnu", api.Env{Now: now}, api.ErrWide)
		refused("bsd", api.Env{Now: now}, api.ErrWide)
	}
	refused("bsd", api.Env{Now: 100, Wide: 86}, api.ErrFar)
	refused("bsd", api.Env{Now: -1, Wide: 1}, api.ErrFar)
}

// 22.6: neither the threshold nor the clock matters for what has no index; the clock is the new file's date all the same.
func TestNoIndexNoStamp(t *testing.T) {
	for _, now := range []int{-1, 0, 1000000000000} {
		env := api.Env{Now: now, UID: -7, GID: 1 << 40}
		f := durable(t, files{"bad.a": put(badA)})
		wantResult(t, fmt.Sprint("now ", now), salvage.Run(f, "bad.a", "new", env), telling(badAt))
		meta := api.Meta{Date: now, UID: -7, GID: 1 << 40, Mode: 0o644}
		wantFiles(t, fmt.Sprint("now ", now), f, files{"bad.a": put(badA), "new": {goodA, meta}})
	}
}

// 22.6: a thin archive has no index, no file of its members is read, and the threshold is not looked at.
func TestThin(t *testing.T) {
	b := thin + whole("/", "idx") + xs + h("a.o/", 5) + head("/0", own, 77) + h("seventeen.bytes/", 5)
	want := thin + head("//", api.Meta{}, 22) + "a.o/\nseventeen.bytes/\n" + h("/0", 5) + h("/5", 5)
	damages := lost(bad(72, 60, api.ErrTail), bad(192, 60, api.ErrTable))
	for _, wide := range []int{0, 1, -1, math.MaxInt} {
		for _, files := range []files{{"a": put(b)}, {"a": put(b), "a.o": put(object("f")), "seventeen.bytes": put(object("g"))}} {
			env := api.Env{Now: 100, UID: 7, GID: 8, Wide: wide}
			wantRun(t, files, "a", "new", env, telling(damages...), 6+pieces(len(want)), files.but("new", made(want)))
			wantRun(t, files, "a", "a", env, telling(damages...), 6+pieces(len(want)), files.but("a", made(want)))
		}
	}
}

// 22.6: a fault of each kind at each call: which name is told, what is called, what is there then.
func TestEachCallStruck(t *testing.T) {
	data := strings.Repeat("0123456789", 110)
	from := regular + xs + whole("b/", data)
	want := regular + whole("b/", data)
	all := 6 + pieces(len(want))
	for _, to := range []string{"old", "new", "from", "a b"} {
		before := files{"from": put(from), "old": put("old")}
		quoted := map[string]string{"a b": `"a b"`, "old": "old", "new": "new", "from": "from"}[to]
		for n := 1; n <= all; n++ {
			for _, kind := range kinds() {
				what := fmt.Sprintf("to %q: call %d struck by %d", to, n, kind)
				f := durable(t, before)
				f.Arm([]api.Fault{{At: n, Kind: kind, N: 5}})
				answer, behind, calls := no(quoted, struck(kind)), before, n
				switch {
				case n == 1:
					answer = no("from", struck(kind))
				case n == all:
					answer, behind = no(quoted, api.ErrUnsure), before.but(to, made(want))
				case n > 2 && kind != api.FaultDown: // what was begun is undone
					calls = n + 1
				}
				wantResult(t, what, salvage.Run(f, "from", to, env), answer)
				wantCalls(t, what, f, calls)
				if kind != api.FaultDown {
					wantFiles(t, what, f, behind)
				}
			}
		}
		f := durable(t, before)
		f.Arm([]api.Fault{{At: all + 1, Kind: api.FaultDown}})
		wantResult(t, "struck behind", salvage.Run(f, "from", to, env), telling(badAt))
		wantFiles(t, "struck behind", f, before.but(to, made(want)))
	}
}

// 22.6: a volume without room for the new bytes, and one without room for a further name.
func TestNoRoom(t *testing.T) {
	list := files{"bad.a": put(badA), "old": put("old")}
	used := len(badA) + len("old")
	f := roomFor(t, used+len(goodA)-1, list)
	wantResult(t, "a byte too few", salvage.Run(f, "bad.a", "old", env), no("old", api.ErrFull))
	wantFiles(t, "a byte too few", f, list)
	f = roomFor(t, used+len(goodA), list)
	wantResult(t, "just room", salvage.Run(f, "bad.a", "old", env), telling(badAt))
	wantFiles(t, "just room", f, list.but("old", made(goodA)))
	for i := len(list); i < api.MaxFiles; i++ {
		list = list.but(fmt.Sprint(i), put(""))
	}
	f = durable(t, list)
	wantResult(t, "no name", salvage.Run(f, "bad.a", "old", env), no("old", api.ErrMany))
	wantFiles(t, "no name", f, list)
	f = durable(t, list.without("5"))
	wantResult(t, "a name", salvage.Run(f, "bad.a", "old", env), telling(badAt))
	wantFiles(t, "a name", f, list.without("5").but("old", made(goodA)))
}

// 22.6: any files, names and environments, against the chapter's own words.
func TestRunAgainstModel(t *testing.T) {
	met := map[api.Errno]int{}
	for seed := range 8000 {
		d := newDice(seed)
		list := files{}
		for _, name := range []string{"a", "b", "c d", temp} {
			if d.often(5) {
				list = list.but(name, put(d.file()))
			}
		}
		name := func() string { return one(d, "a", "a", "b", "b", "c d", "e", temp, "x/y", "") }
		from, to := name(), name()
		env := api.Env{Now: one(d, 0, 100, 77, -1), UID: d.Intn(9), GID: d.Intn(9), Wide: one(d, 0, 0, 80, 80, 200, 1, -1)}
		want, calls, behind := toldRun(list, from, to, env)
		wantRun(t, list, from, to, env, want, calls, behind)
		if t.Failed() {
			t.Fatalf("seed %d", seed)
		}
		met[want.Code]++
	}
	for _, e := range []api.Errno{api.OK, api.ErrDamage, api.ErrMissing, api.ErrFileName, api.ErrReserved, api.ErrRange, api.ErrWide, api.ErrFar} {
		if met[e] < 10 {
			t.Errorf("the test met %v %d times", e, met[e])
		}
	}
}

// R2: nothing is kept from Run to Run, nor from Read to Read.
func TestNothingKept(t *testing.T) {
	for seed := range 300 {
		d := newDice(seed)
		one, other := d.file(), d.file()
		p, damages := salvage.Read(one)
		salvage.Read(other)
		salvage.Run(durable(t, files{"a": put(other)}), "a", "b", env)
		if again, told := salvage.Read(one); !sameParsed(again, p) || !slices.Equal(told, damages) {
			t.Fatalf("seed %d: Read answers otherwise behind another one", seed)
		}
		list := files{"a": put(one)}
		f, g := durable(t, list), durable(t, list)
		want := salvage.Run(f, "a", "b", env)
		wantResult(t, fmt.Sprint("seed ", seed), salvage.Run(g, "a", "b", env), want)
		if !maps.Equal(look(t, f), look(t, g)) {
			t.Fatalf("seed %d: Run leaves other files behind another one", seed)
		}
	}
}
