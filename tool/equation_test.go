package tool_test

import (
	"strings"
	"testing"

	"shelf/api"
)

// abac is an archive with one name twice, and files that are not in it or are newer.
func abac() files {
	return files{
		"lib.a": put(gnu(member("a", "1"), member("b", "2"), member("a", "3"), member("c", "4"))),
		"a":     {"new a", dated(member("", ""), 6).Meta}, "b": put("new b"), "x": put("ex"), "y": put("why"),
	}
}

// toldData is lib.a behind a line: its members' data, one behind another.
func toldData(t *testing.T, list files, line string) string {
	t.Helper()
	f := durable(t, list)
	if r := exec(f, decode(t, line)); r.Code != api.OK {
		t.Errorf("%s: %q", line, r.Msg)
	}
	return exec(f, api.Command{Op: 'p', Archive: "lib.a"}).Out
}

// 17.7: each operation's equation; the archive is written anew in every case.
func TestEquations(t *testing.T) {
	for _, c := range []struct{ line, want string }{
		{"ar d lib.a", "1234"}, {"ar d lib.a a", "234"}, {"ar d lib.a a a", "24"}, {"ar d lib.a c a", "23"}, {"ar d lib.a c b a a", ""},
		{"ar m lib.a", "1234"}, {"ar m lib.a a", "2341"}, {"ar m lib.a c b", "1342"}, {"ar m lib.a a a", "2413"},
		{"ar ma b lib.a", "1234"}, {"ar ma b lib.a c", "1243"}, {"ar ma b lib.a c a", "2413"}, {"ar mb b lib.a c", "1423"}, {"ar mi a lib.a c b", "4213"}, {"ar mb a lib.a a", "2134"},
		{"ar q lib.a", "1234"}, {"ar q lib.a a", "1234new a"}, {"ar q lib.a x a x", "1234exnew aex"},
		{"ar r lib.a", "1234"}, {"ar r lib.a a", "new a234"}, {"ar r lib.a x y", "1234exwhy"}, {"ar r lib.a x b y", "1new b34exwhy"}, {"ar r lib.a x x", "1234ex"},
		{"ar ra b lib.a x y", "12exwhy34"}, {"ar rb b lib.a x a y", "new aexwhy234"}, {"ar ri a lib.a x", "ex1234"}, {"ar ra a lib.a", "1234"},
		{"ar ru lib.a a b", "new a234"}, {"ar ru lib.a b x", "1234ex"}, {"ar rua b lib.a b x", "12ex34"},
		{"ar s lib.a", "1234"}, {"ar s lib.a x y", "1234"}, {"ranlib lib.a", "1234"},
	} {
		if got := toldData(t, abac(), c.line); got != c.want {
			t.Errorf("17.7: %s leaves %q, want %q", c.line, got, c.want)
		}
	}
}

// 17.7: members are carried over whole, their dates too.
func TestWhole(t *testing.T) {
	list := files{"lib.a": put(gnu(dated(member("a", "1"), 9), member("b", "2"), dated(member("c", "3"), 8))), "b": {"new", api.Meta{Date: 6, UID: 3, GID: 4, Mode: 0o755}}}
	b := api.Member{Meta: list["b"].meta, Name: "b", Size: 3, Data: "new"}
	wantRun(t, list, "ar m lib.a a", api.Result{}, 7, list.but("lib.a", made(gnu(member("b", "2"), dated(member("c", "3"), 8), dated(member("a", "1"), 9)))))
	wantRun(t, list, "ar d lib.a b", api.Result{}, 7, list.but("lib.a", made(gnu(dated(member("a", "1"), 9), dated(member("c", "3"), 8)))))
	wantRun(t, list, "ar r lib.a b", api.Result{}, 9, list.but("lib.a", made(gnu(dated(member("a", "1"), 9), b, dated(member("c", "3"), 8)))))
	wantRun(t, list, "ar ru lib.a b", api.Result{}, 9, list.but("lib.a", made(gnu(dated(member("a", "1"), 9), b, dated(member("c", "3"), 8)))))
	wantRun(t, list, "ar q lib.a b", api.Result{}, 9, list.but("lib.a", made(gnu(dated(member("a", "1"), 9), member("b", "2"), dated(member("c", "3"), 8), b))))
}

// 17.7: the refusals of d and m tell the name that is missing, those of r and m the anchor; the archive is as before. v tells nothing then.
func TestEquationRefused(t *testing.T) {
	for _, c := range []struct {
		line, name string
		code       api.Errno
		calls      int
	}{
		{"ar d lib.a z", "z", api.ErrNoMember, 1},
		{"ar dv lib.a a z y", "z", api.ErrNoMember, 1},
		{"ar d lib.a b b", "b", api.ErrNoMember, 1},
		{"ar d lib.a a a a z", "a", api.ErrNoMember, 1},
		{"ar mv lib.a c z", "z", api.ErrNoMember, 1},
		{"ar ma y lib.a a z", "z", api.ErrNoMember, 1},
		{"ar ma y lib.a a", "y", api.ErrAnchor, 1},
		{"ar mbv b lib.a b", "b", api.ErrAnchor, 1},
		{"ar mb y lib.a", "y", api.ErrAnchor, 1},
		{"ar ra z lib.a x y", "z", api.ErrAnchor, 5},
		{"ar rbv x lib.a x", "x", api.ErrAnchor, 3},
		{"ar rui z lib.a", "z", api.ErrAnchor, 1},
		{"ar ra a new.a x", "a", api.ErrAnchor, 3},
		{"ar rbcT a new.a", "a", api.ErrAnchor, 1},
	} {
		wantRun(t, abac(), c.line, no(c.name, c.code), c.calls, abac())
	}
	anchor := api.Command{Op: 'r', Archive: "lib.a", Pos: api.Pos{Where: api.Before}}
	wantExec(t, abac(), anchor, no("", api.ErrAnchor), 1, abac())
	anchor = api.Command{Op: 'm', Archive: "lib.a", Names: []string{"\n"}, Pos: api.Pos{Where: api.After, Anchor: " "}}
	wantExec(t, abac(), anchor, no(`"\n"`, api.ErrNoMember), 1, abac())
	anchor.Names = nil
	wantExec(t, abac(), anchor, no(`" "`, api.ErrAnchor), 1, abac())
}

// 17.7: what belongs to another operation does not matter: positions to d, q and s, u to all but r.
func TestEquationFields(t *testing.T) {
	nowhere := api.Pos{Where: api.After, Anchor: "nowhere"}
	old := gnu(member("a", "1"), member("b", "2"))
	list := files{"lib.a": put(old), "a": {"new a", api.Meta{Date: 4}}}
	wantExec(t, list, api.Command{Op: 'd', Archive: "lib.a", Names: []string{"a"}, Pos: nowhere, Update: true}, api.Result{}, 7, list.but("lib.a", made(gnu(member("b", "2")))))
	wantExec(t, list, api.Command{Op: 's', Archive: "lib.a", Names: []string{"a"}, Pos: nowhere, Update: true}, api.Result{}, 7, list.but("lib.a", made(old)))
	late := api.Member{Meta: list["a"].meta, Name: "a", Size: 5, Data: "new a"}
	wantExec(t, list, api.Command{Op: 'q', Archive: "lib.a", Names: []string{"a"}, Pos: nowhere, Update: true}, api.Result{}, 9, list.but("lib.a", made(gnu(member("a", "1"), member("b", "2"), late))))
	wantExec(t, list, api.Command{Op: 'r', Archive: "lib.a", Names: []string{"a"}, Pos: api.Pos{Where: 3, Anchor: "nowhere"}, Update: true}, api.Result{}, 9, list.but("lib.a", made(old)))
	wantExec(t, list, api.Command{Op: 'm', Archive: "lib.a", Names: []string{"a"}, Pos: api.Pos{Where: -1, Anchor: "nowhere"}}, api.Result{}, 7, list.but("lib.a", made(gnu(member("b", "2"), member("a", "1")))))
	wantExec(t, list, api.Command{Op: 'r', Archive: "lib.a", Names: []string{"a"}, Update: true, Det: true}, api.Result{}, 9, list.but("lib.a", made(gnu(normal(member("a", "1")), normal(member("b", "2"))))))
}

// 17.7: what r, q, d and m are given is in the archive's order of names, not sorted.
func TestManyNames(t *testing.T) {
	list := files{}
	var names []string
	for _, n := range strings.Fields("q w e r t y u i o p") {
		list[n] = put(n)
		names = append(names, n)
	}
	f := durable(t, list)
	exec(f, api.Command{Op: 'q', Archive: "lib.a", Names: names})
	wantResult(t, "17.7: q", exec(f, api.Command{Op: 'p', Archive: "lib.a"}), api.Result{Out: "qwertyuiop"})
	exec(f, api.Command{Op: 'm', Archive: "lib.a", Names: []string{"p", "e"}, Pos: api.Pos{Where: api.Before, Anchor: "w"}})
	exec(f, api.Command{Op: 'd', Archive: "lib.a", Names: []string{"u", "q"}})
	wantResult(t, "17.7: m, d", exec(f, api.Command{Op: 'p', Archive: "lib.a"}), api.Result{Out: "pewrtyio"})
}
