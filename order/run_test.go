package order_test

import (
	"fmt"
	"math"
	"strings"
	"testing"

	"shelf/api"
	"shelf/arc"
	"shelf/order"
	"shelf/pack"
	"shelf/syms"
)

// archive is an archive of one member.
func archive(t *testing.T, name, data string) string {
	t.Helper()
	b, e := pack.Build(api.GNU, []api.Member{{Name: name, Size: len(data), Data: data}}, 7, api.Wide32, false)
	if p, _, bad := arc.Parse(b); e != api.OK || bad != api.OK || len(p.Members) != 1 {
		t.Fatal(e, bad)
	}
	return b
}

// shelf is a volume with object files, two of which need each other, and with others.
func shelf(t *testing.T) files {
	t.Helper()
	return files{
		"m.o": obj("main", "f g"), "f.o": obj("f", "h"), "g.o": obj("g g", "f"), "h.o": obj("h", ""), "h2.o": obj("x h", ""),
		"p.o": obj("p", "q"), "q.o": obj("q", "p main"), "r.o": obj("r", "s"), "s.o": obj("s", "t"), "t.o": obj("t", "r"),
		"my file": obj("mine", "f"), "a\"b": obj("h", "p"), "text": "f g h", "none": "", "cut.o": obj("h", "main")[:100], "lib.a": archive(t, "h.o", obj("h", "main")), "weak.o": objectOf(symbol{"main", 2, 0}, symbol{"p", 2, 1}), temp: obj("h", ""),
	}
}

// 21.6, 21.7: files that need one another, in the order in which each goes ahead of those that it needs.
func TestFilesInOrder(t *testing.T) {
	list := shelf(t)
	for _, x := range []struct{ files, out string }{
		{"m.o", "m.o"},
		{"m.o f.o", "m.o f.o"},
		{"f.o m.o", "m.o f.o"},
		{"h.o f.o m.o", "m.o f.o h.o"},
		{"h.o g.o f.o m.o", "m.o g.o f.o h.o"},
		{"h2.o f.o h.o", "f.o h2.o h.o"}, // both define it
		{"h.o g.o", "h.o g.o"},
		{"weak.o m.o", "weak.o m.o"}, // a weak name is not needed
		{"weak.o q.o", "q.o weak.o"}, // but it is defined
		{"p.o r.o", "p.o r.o"},       // nobody has what they need
	} {
		wantRun(t, list, words(x.files), told(x.out), len(words(x.files)))
	}
}

// 21.6: files that are no ELF files, spoilt ones and archives define and need nothing; they are there all the same.
func TestOtherFiles(t *testing.T) {
	list := shelf(t)
	for _, name := range words("text none cut.o lib.a") {
		if syms.Globals(list[name]) != nil || syms.Needs(list[name]) != nil {
			t.Errorf("%s has symbols", name)
		}
		wantRun(t, list, []string{name}, told(name), 1)
		wantRun(t, list, []string{name, "m.o"}, told(name+" m.o"), 2)
		wantRun(t, list, []string{name, "h.o", "f.o", "m.o"}, told(name+" m.o f.o h.o"), 4)
		wantRun(t, list, []string{"f.o", name}, told("f.o "+name), 2)
	}
	wantRun(t, list, words("h.o text f.o none"), told("text f.o h.o none"), 4)
}

// 21.6: a file that is named twice is read twice and is one name.
func TestFileNamedTwice(t *testing.T) {
	list := shelf(t)
	wantRun(t, list, words("m.o m.o"), told("m.o"), 2)
	wantRun(t, list, words("f.o m.o f.o m.o f.o"), told("m.o f.o"), 5)
	wantRun(t, list, words("text h.o text f.o"), told("text f.o h.o"), 4)
	wantRun(t, list, words("p.o q.o p.o"), told("p.o q.o", "p.o q.o"), 3)
}

// 21.6: the first refusal ends it, with nothing told of the files ahead of it.
func TestRefused(t *testing.T) {
	list := shelf(t)
	long := strings.Repeat("n", api.MaxFileName+1)
	for _, x := range []struct {
		name, quoted string
		code         api.Errno
		calls        int
	}{
		{temp, temp, api.ErrReserved, 0}, {"gone", "gone", api.ErrMissing, 1}, {"a/b", "a/b", api.ErrFileName, 1}, {"", `""`, api.ErrFileName, 1}, {long, long, api.ErrFileName, 1},
		{"g one", `"g one"`, api.ErrMissing, 1}, {"g\n\xff", `"g\n\xff"`, api.ErrMissing, 1}, {"a\x00", `"a\x00"`, api.ErrFileName, 1}, {temp + "~", temp + "~", api.ErrMissing, 1}, {"ar.tmp", "ar.tmp", api.ErrMissing, 1},
	} {
		wantRun(t, list, []string{x.name}, no(x.quoted, x.code), x.calls)
		wantRun(t, list, []string{"m.o", "f.o", x.name}, no(x.quoted, x.code), 2+x.calls)
		wantRun(t, list, []string{"p.o", x.name, "q.o", "gone too", temp}, no(x.quoted, x.code), 1+x.calls)
		wantRun(t, list, []string{"p.o", "q.o", x.name}, no(x.quoted, x.code), 2+x.calls) // the loop is not told either
	}
	wantRun(t, list, []string{"gone", temp}, no("gone", api.ErrMissing), 1)
	wantRun(t, list, []string{temp, "gone"}, no(temp, api.ErrReserved), 0)
	wantRun(t, files{"m.o": obj("main", "")}, []string{temp}, no(temp, api.ErrReserved), 0) // whether it is there or not
}

// 21.6: each ReadFile, struck by each kind of fault, ends it with its file's name.
func TestStruck(t *testing.T) {
	list := shelf(t)
	names := []string{"m.o", "my file", "text", "gone", "lib.a"}
	quoted := []string{"m.o", `"my file"`, "text", "gone"}
	for k, name := range quoted {
		for _, kind := range kinds() {
			f := durable(t, list)
			f.Arm([]api.Fault{{At: k + 1, Kind: kind, N: 3}})
			what := fmt.Sprintf("Run(%q), fault %d at call %d", names, kind, k+1)
			wantResult(t, what, order.Run(f, names), no(name, struck(kind)))
			wantCalls(t, what, f, k+1)
			if f.Down() != (kind == api.FaultDown) {
				t.Errorf("%s: down is %v", what, f.Down())
			}
		}
	}
	f := durable(t, list)
	f.Arm([]api.Fault{{At: 1, Kind: api.FaultDown}})
	f.SyncDir()
	wantResult(t, "with the power off", order.Run(f, names), no("m.o", api.ErrDown))
	wantResult(t, "with the power off", order.Run(f, []string{temp, "m.o"}), no(temp, api.ErrReserved))
	wantResult(t, "with the power off, no files", order.Run(f, nil), api.Result{})
}

// 21.7: names are told quoted, each in a line, those of loops with one blank between.
func TestQuoted(t *testing.T) {
	list := shelf(t)
	wantRun(t, list, []string{"f.o", "my file"}, api.Result{Out: "\"my file\"\nf.o\n"}, 2)
	two := files{"a b": obj("a", "b"), "c\nd": obj("b", "a"), "\xff": obj("c", "")}
	wantRun(t, two, []string{"a b", "c\nd", "\xff"}, api.Result{
		Out: "\"\\xff\"\n\"a b\"\n\"c\\nd\"\n", Msg: "tsort: input contains a loop: \"a b\" \"c\\nd\"\n", Code: api.ErrLoop,
	}, 3)
}

// 21.7: no, one and several loops; all names are told in either case.
func TestLoopsTold(t *testing.T) {
	list := shelf(t)
	for _, x := range []struct {
		files, out string
		loops      []string
	}{
		{"p.o q.o", "p.o q.o", []string{"p.o q.o"}},
		{"q.o p.o", "q.o p.o", []string{"q.o p.o"}},
		{"r.o s.o t.o", "r.o s.o t.o", []string{"r.o s.o t.o"}},
		{"t.o s.o r.o", "t.o r.o s.o", []string{"t.o r.o s.o"}},
		{"s.o r.o", "r.o s.o", nil},
		{"p.o q.o r.o s.o t.o", "p.o q.o r.o s.o t.o", []string{"p.o q.o", "r.o s.o t.o"}},
		{"r.o q.o s.o p.o t.o", "r.o s.o t.o q.o p.o", []string{"r.o s.o t.o", "q.o p.o"}},
		{"f.o m.o p.o q.o", "q.o m.o f.o p.o", []string{"q.o p.o"}}, // q.o needs what m.o defines
		{"q.o p.o h.o m.o f.o", "q.o p.o m.o f.o h.o", []string{"q.o p.o"}},
	} {
		wantRun(t, list, words(x.files), told(x.out, x.loops...), len(words(x.files)))
	}
}

// 21.7: no call but ReadFile: no file changes, and nothing that was pending or loose becomes durable, whatever strikes.
func TestChangesNothing(t *testing.T) {
	list := shelf(t)
	for _, args := range []string{"m.o f.o g.o", "p.o q.o", "text gone m.o", "m.o " + temp, ""} {
		names := words(args)
		for k := range 5 {
			for _, kind := range kinds() {
				plan := []api.Fault{{At: k, Kind: kind}}
				what := fmt.Sprintf("Run(%q), fault %d at call %d", names, kind, k)
				f := unsettled(t, list, false)
				f.Arm(plan)
				order.Run(f, names)
				if !f.Down() {
					wantFiles(t, what, f, list)
				}
				f.Restart(math.MaxInt, nil)
				for name, data := range look(t, f) {
					if data != "" {
						t.Errorf("%s: %q became durable", what, name)
					}
				}
				f = unsettled(t, list, true)
				f.Arm(plan)
				order.Run(f, names)
				f.Restart(0, nil)
				wantFiles(t, what+", behind a restart", f, files{})
			}
		}
	}
}

// R2: nothing is kept from call to call.
func TestRunKeepsNothing(t *testing.T) {
	list := shelf(t)
	all := [][]string{words("m.o f.o g.o"), words("p.o q.o"), words("gone"), words("r.o s.o t.o p.o q.o m.o"), {temp}, nil, words("h.o m.o f.o")}
	f := durable(t, list)
	for range 2 {
		for _, names := range all {
			wantResult(t, fmt.Sprintf("R2: Run(%q)", names), order.Run(f, names), order.Run(durable(t, list), names))
		}
	}
}
