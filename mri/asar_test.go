package mri_test

import (
	"fmt"
	"math/rand"
	"strings"
	"testing"

	"shelf/api"
	"shelf/arc"
	"shelf/mri"
	"shelf/tool"
)

// wantAsAr: on volumes that are alike the commands answer what Exec answers of the command, and leave the same files; the code that both answer is answered.
func wantAsAr(t *testing.T, what string, list files, e api.Env, commands []api.Mri, c api.Command) api.Errno {
	t.Helper()
	list = list.but("the script", put(mri.Text(commands)))
	f, twin := durable(t, list), durable(t, list)
	got, want := mri.Run(f, "the script", e), tool.Exec(twin, c, e)
	what = fmt.Sprintf("19.20: %s: %q, %+v", what, mri.Text(commands), c)
	wantResult(t, what, got, want)
	wantFiles(t, what, f, look(t, twin))
	return got.Code
}

// asQuick, asDelete and asReplace are 19.20's three scripts with their commands.
func asQuick(l string, names []string) ([]api.Mri, api.Command) {
	return []api.Mri{of(api.MriCreate, l), of(api.MriAddMod, "", names...), of(api.MriSave, "")}, api.Command{Op: 'q', Quiet: true, Archive: l, Names: names}
}

func asDelete(l string, names []string) ([]api.Mri, api.Command) {
	return []api.Mri{of(api.MriOpen, l), of(api.MriDelete, "", names...), of(api.MriSave, "")}, api.Command{Op: 'd', Archive: l, Names: names}
}

func asReplace(l string, names []string) ([]api.Mri, api.Command) {
	return []api.Mri{of(api.MriOpen, l), of(api.MriReplace, "", names...), of(api.MriSave, "")}, api.Command{Op: 'r', Archive: l, Names: names}
}

// 19.20: CREATE, ADDMOD, SAVE is ar qc where there is no such file.
func TestAsQuick(t *testing.T) {
	list := abac().but("o", put(object("f", "g"))).but("@x", put("at")).but("-v", put("minus")).but("late", file{"x", api.Meta{Date: -1}})
	for _, l := range []string{"n", "@n", "-n", "n\xff", temp, "n/m", "n\x00", strings.Repeat("n", 64), strings.Repeat("n", 65)} {
		for _, names := range [][]string{{"a"}, {"a", "b", "a"}, {"o", "x", "y"}, {"@x", "-v"}, {"gone"}, {"a", "gone", temp}, {temp}, {"x/y"}, {"l.a", "the"}, {"late"}, {"late", "gone"}} {
			for _, wide := range []int{0, 1, api.Wide32, -1} {
				e := env
				e.Wide = wide
				commands, c := asQuick(l, names)
				wantAsAr(t, "CREATE, ADDMOD, SAVE", list, e, commands, c)
			}
		}
	}
}

// 19.20: OPEN, DELETE, SAVE is ar d, and OPEN, REPLACE, SAVE is ar r, where the file is a regular archive.
func TestAsDeleteAndReplace(t *testing.T) {
	o := member("o", object("f", "g"))
	list := abac().but("o", put(object("h"))).but("g.a", put(gnu(o, member("a", "a"), o))).but("b.a", put(bsd(o, member("a", "a"), o))).but("e.a", put(regular())).but("late", file{"x", api.Meta{Date: -1}})
	for _, l := range []string{"l.a", "m.a", "g.a", "b.a", "e.a"} {
		for _, names := range [][]string{{"a"}, {"o"}, {"o", "o"}, {"o", "a", "o"}, {"a", "a", "b", "c"}, {"b", "e"}, {"x", "o", "y"}, {"gone"}, {"a", "gone", "x"}, {temp}, {"a/b"}, {l}, {"late"}} {
			for _, wide := range []int{0, 1, 100, -1} {
				e := env
				e.Wide = wide
				commands, c := asDelete(l, names)
				wantAsAr(t, "OPEN, DELETE, SAVE", list, e, commands, c)
				commands, c = asReplace(l, names)
				wantAsAr(t, "OPEN, REPLACE, SAVE", list, e, commands, c)
			}
		}
	}
}

// 19.20: chance volumes, archives and names.
func TestAsArByChance(t *testing.T) {
	codes := map[api.Errno]int{}
	for seed := range int64(6000) {
		d := dice{rand.New(rand.NewSource(seed))}
		list := d.chanceFiles()
		var names []string
		for range d.Intn(3) + 1 {
			names = append(names, d.name())
		}
		e := d.environment()
		l := one(d, "lib.a", "other.a", "new.a", "gone.a")
		x, there := list[l]
		what := fmt.Sprintf("seed %d", seed)
		if !there {
			commands, c := asQuick(l, names)
			codes[wantAsAr(t, what, list, e, commands, c)]++
			continue
		}
		if p, _, code := arc.Parse(x.data); code != api.OK || p.Kind == api.Thin {
			t.Fatalf("%s: %q is no regular archive", what, l)
		}
		commands, c := asDelete(l, names)
		codes[wantAsAr(t, what, list, e, commands, c)]++
		commands, c = asReplace(l, names)
		codes[wantAsAr(t, what, list, e, commands, c)]++
	}
	for _, code := range []api.Errno{api.OK, api.ErrMissing, api.ErrFileName, api.ErrReserved, api.ErrNoMember, api.ErrRange, api.ErrWide} {
		if codes[code] < 20 {
			t.Errorf("chance met %v only %d times", code, codes[code])
		}
	}
}
