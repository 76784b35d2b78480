package nm_test

import (
	"cmp"
	"fmt"
	"math"
	"slices"
	"strings"
	"testing"

	"shelf/api"
	"shelf/nm"
	"shelf/syms"
	"shelf/text"
	"shelf/tool"
	"shelf/vfs"
)

// key is what the rule of 20.3 puts rows in order by: a text for each row, such that the order of rows is that of the texts.
func key(r api.Row, o api.NmOpts) string {
	value := fmt.Sprintf("%016x", r.Value)
	if !o.Number {
		return r.Name + "\x00" + value
	}
	section := "1"
	if r.Section == 0 {
		section = "0"
	}
	return section + value + r.Name
}

// 20.10: the rows that are not left out, each as often as it was there; in order; with Reverse the answer without it, turned round.
func TestRearrangement(t *testing.T) {
	for seed := range 20000 {
		d := newDice(seed)
		rows := d.rows()
		o := d.options()
		o.Reverse = false
		got := nm.Sort(rows, o)
		what := fmt.Sprintf("20.10: seed %d: Sort(%v, %+v)", seed, rows, o)
		var kept []api.Row
		for _, r := range rows {
			if (!o.Global || r.Bind != 0) && (!o.Undef || r.Letter == 'U' || r.Letter == 'w') {
				kept = append(kept, r)
			}
		}
		wantRows(t, what+": each as often", byAll(got), byAll(kept))
		if o.Plain {
			wantRows(t, what+": as they stood", got, kept)
		} else if !slices.IsSortedFunc(got, func(a, b api.Row) int { return cmp.Compare(key(a, o), key(b, o)) }) {
			t.Errorf("%s = %v: not in order", what, got)
		}
		o.Reverse = true
		turned := nm.Sort(rows, o)
		slices.Reverse(turned)
		wantRows(t, what+": turned round", turned, got)
		if t.Failed() {
			return
		}
	}
}

// byAll is a list of rows in an order that hangs on the rows alone.
func byAll(rows []api.Row) []api.Row {
	list := slices.Clone(rows)
	slices.SortFunc(list, func(a, b api.Row) int { return cmp.Compare(fmt.Sprintf("%#v", a), fmt.Sprintf("%#v", b)) })
	return list
}

// 20.11: of a file without symbols of Type 3 and 4 the rows' names are Globals and Needs.
func TestGlobalsAndNeeds(t *testing.T) {
	met := 0
	for seed := range 5000 {
		d := newDice(seed)
		list := some(d, 9, d.symbol)
		for i := range list {
			if list[i].Type == 3 || list[i].Type == 4 {
				list[i].Type = 0
			}
		}
		b := one(d, shapes()...).object(sections(), list)
		rows, e := nm.Rows(b)
		var globals, needs []string
		for _, r := range rows {
			undefined := r.Letter == 'U' || r.Letter == 'w'
			if (r.Bind == 1 || r.Bind == 2) && !undefined {
				globals = append(globals, r.Name)
			}
			if r.Bind == 1 && r.Letter == 'U' {
				needs = append(needs, r.Name)
			}
		}
		if e != api.OK || !slices.Equal(globals, syms.Globals(b)) || !slices.Equal(needs, syms.Needs(b)) {
			t.Fatalf("20.11: seed %d: %v, %d: %q and %q, want %q and %q", seed, rows, e, globals, needs, syms.Globals(b), syms.Needs(b))
		}
		met += min(len(globals), 1) * min(len(needs), 1)
	}
	if met < 500 {
		t.Errorf("20.11: only %d files with both", met)
	}
}

// made are files of which commands make archives: some define names for others, some do not.
func made() files {
	return files{
		"a.o": mainO(), "n.o": narrowO(), "mix.o": mixO(), "t.txt": "hi", "none.o": object(needed("puts"), symbol("own", 0, 1, 0)), "bad.o": mainO()[:300], "b c.o": object(global("x y"), global("z"), global("x y")),
		"very.long.name.of.a.file.o": object(global("long"), symbol("common", 1, 0xfff2, 4)),
	}
}

// members are the members of an archive as t lists them.
func members(t *testing.T, f *vfs.FS, archive string) []string {
	t.Helper()
	r := tool.Run(f, []string{"ar", "t", archive}, api.Env{})
	if r.Code != api.OK {
		t.Fatal(r)
	}
	var list []string
	for _, l := range strings.SplitAfter(r.Out, "\n") {
		if w, _, _ := text.Words(l); len(w) == 1 {
			list = append(list, w[0])
		}
	}
	return list
}

// wantIndexTold: nm -s tells the archive's Globals ahead of what nm tells of it, or nothing if it has none.
func wantIndexTold(t *testing.T, what string, f *vfs.FS, archive string, list files, indexed bool) {
	t.Helper()
	want, some := "Archive index:\n", false
	for _, m := range members(t, f, archive) {
		for _, name := range syms.Globals(list[m]) {
			want += text.Quote(name) + " in " + text.Quote(m) + "\n"
			some = true
		}
	}
	rest := nm.Run(f, []string{archive})
	want += "\n" + rest.Out
	if !some || !indexed {
		want = rest.Out
	}
	wantResult(t, what, nm.Run(f, []string{"-s", archive}), api.Result{Out: want, Msg: rest.Msg, Code: rest.Code})
	if strings.Contains(rest.Out, "Archive index") {
		t.Errorf("%s: without s: %q", what, rest.Out)
	}
}

// 20.12: behind the commands that made an archive nm -s tells each member's Globals, in order, and nothing else there; thin and regular, wide and narrow.
func TestBehindCommands(t *testing.T) {
	list := made()
	for _, c := range []struct {
		lines   string
		indexed bool
	}{
		{"rc l.a a.o n.o", true}, {"rc l.a t.txt", true}, {"rc l.a", true}, {"rc l.a none.o bad.o", true}, {"qc l.a a.o t.txt a.o mix.o a.o", true}, {"rcS l.a a.o", false}, {"rc l.a bad.o mix.o none.o t.txt very.long.name.of.a.file.o a.o n.o", true},
		{"rc l.a a.o n.o mix.o / d l.a n.o / q l.a n.o / ma n.o l.a a.o", true}, {"rc l.a a.o / d l.a a.o", true}, {"rcS l.a a.o mix.o / s l.a", true}, {"rc l.a a.o / rS l.a n.o / s l.a", true}, {"rcD l.a mix.o a.o / rb a.o l.a n.o", true},
	} {
		for _, how := range []string{"", "--thin", "--format=bsd"} {
			for _, wide := range []int{0, 1, 400} {
				if wide > 0 && how == "--format=bsd" {
					continue // there is no wide one
				}
				f := durable(t, list)
				for _, line := range strings.Split(c.lines, "/") {
					words := append([]string{"ar"}, strings.Fields(line)...)
					if how != "" && strings.ContainsAny(words[1][:1], "rq") {
						words = slices.Insert(words, 1, how)
					}
					if r := tool.Run(f, words, api.Env{Now: 7, Wide: wide}); r.Code != api.OK {
						t.Fatalf("%q: %v", words, r)
					}
				}
				wantIndexTold(t, fmt.Sprintf("20.12: %s %s, wide %d", c.lines, how, wide), f, "l.a", list, c.indexed)
			}
		}
	}
	f := durable(t, list)
	for _, words := range [][]string{{"ar", "rc", "l.a", "b c.o", "a.o"}, {"ar", "rcTS", "t.a", "a.o", "b c.o"}, {"ranlib", "t.a"}} {
		if r := tool.Run(f, words, api.Env{}); r.Code != api.OK {
			t.Fatalf("%q: %v", words, r)
		}
	}
	wantIndexTold(t, "20.12: names that are quoted", f, "l.a", list, true)
	wantIndexTold(t, "20.12: a thin one", f, "t.a", list, true)
	if r := runOf(f, "-sA l.a"); !strings.HasPrefix(r.Out, "Archive index:\n\"x y\" in \"b c.o\"\nz in \"b c.o\"\n\"x y\" in \"b c.o\"\nmain in a.o\n\nl.a:") {
		t.Errorf("20.12: %q", r.Out)
	}
}

// lookers are words of all sorts, and how many calls they make: each is a ReadFile that the chapter names.
func lookers() map[string]int {
	return map[string]int{
		"a.o": 1, "-s lib.a": 1, "lib.a a.o": 2, "-A thin.a lib.a": 4, "thin.a": 3, "gone": 1, "a.o gone a.o": 2, "t.txt": 1, temp: 0, "-x": 0, "": 0, "-g": 0, "a.o " + temp: 1, "bad.a": 1, "-s liar.a": 1, "lost.a": 3,
	}
}

func lookedAt() files {
	a := inside{"a.o", mainO()}
	return files{
		"a.o": mainO(), "n.o": narrowO(), "t.txt": "hi", "bad.a": regular() + "x", temp: "left", "lib.a": indexed(api.Index32, []pair{{"main", 0}}, a, inside{"t.txt", "hi"}),
		"thin.a": ref(a, inside{"n.o", narrowO()}), "liar.a": indexed(api.Index64, []pair{{"main", 9}}, a), "lost.a": ref(a, inside{"gone", "x"}),
	}
}

// 20.12: no call but ReadFile: no file changes, and nothing that was pending or loose becomes durable, whatever strikes.
func TestChangesNothing(t *testing.T) {
	list := lookedAt()
	for args, calls := range lookers() {
		f := durable(t, list)
		runOf(f, args)
		wantCalls(t, "20.12: "+args, f, calls)
		for k := range 5 {
			for _, kind := range kinds() {
				plan := []api.Fault{{At: k, Kind: kind}}
				what := fmt.Sprintf("20.12: nm %s, fault %d at call %d", args, kind, k)
				f := unsettled(t, list, false)
				f.Arm(plan)
				runOf(f, args)
				if !f.Down() {
					wantFiles(t, what, f, list)
				}
				f.Restart(math.MaxInt, nil)
				for name, data := range look(t, f) {
					if data != "" {
						t.Errorf("%s: %q became durable", what, name)
					}
				}
				f = unsettled(t, list, true)
				f.Arm(plan)
				runOf(f, args)
				f.Restart(0, nil)
				wantFiles(t, what+", behind a restart", f, files{})
			}
		}
	}
}

// R2: nothing is kept from call to call.
func TestNothingKept(t *testing.T) {
	list := lookedAt()
	f := durable(t, list)
	first := map[string]api.Result{}
	for args := range lookers() {
		first[args] = runOf(durable(t, list), args)
	}
	for range 2 {
		for args := range lookers() {
			wantResult(t, "R2: "+args, runOf(f, args), first[args])
		}
	}
}
