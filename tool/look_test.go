package tool_test

import (
	"strings"
	"testing"

	"shelf/api"
	"shelf/tool"
)

// missing is an answer with a line for each missing name.
func missing(told string, names ...string) api.Result {
	r := api.Result{Out: told}
	for _, name := range names {
		r.Msg += "ar: " + name + ": no such member\n"
		r.Code = api.ErrNoMember
	}
	return r
}

// 17.11, 17.12, 17.14: t: all members, or those that are named, in the order of the names; the missing names one behind the other.
func TestListing(t *testing.T) {
	for _, c := range []struct {
		names string
		want  api.Result
	}{
		{"", out("a", "b", "a", "c")},
		{"c", out("c")}, {"c a", out("c", "a")}, {"a b a", out("a", "b", "a")}, {"c b a", out("c", "b", "a")},
		{"z", missing("", "z")}, {"z z", missing("", "z", "z")}, {"z c y", missing("c\n", "z", "y")},
		{"a a a", missing("a\na\n", "a")}, {"b z b", missing("b\n", "z", "b")},
	} {
		wantRun(t, abac(), "ar t lib.a "+c.names, c.want, 1, abac())
	}
	wantExec(t, abac(), api.Command{Op: 't', Archive: "lib.a", Names: []string{"", "a b", "c"}}, api.Result{
		Out: "c\n", Msg: "ar: no such member\nar: \"a b\": no such member\n", Code: api.ErrNoMember,
	}, 1, abac())
	wantExec(t, abac(), api.Command{Prog: 9, Op: 't', Archive: "lib.a", Names: []string{"z"}}, missing("", "z"), 1, abac())
}

// 17.12: tv: a line of each.
func TestListingLong(t *testing.T) {
	list := files{"lib.a": put(regular(part("a/", api.Meta{Date: 86400, UID: 10, GID: 20, Mode: 0o4755}, "hello"), part("b/", api.Meta{}, "")))}
	a := "rwsr-xr-x 10/20      5 Jan  2 00:00 1970 a\n"
	b := "--------- 0/0      0 Jan  1 00:00 1970 b\n"
	wantRun(t, list, "ar tv lib.a", api.Result{Out: a + b}, 1, list)
	wantRun(t, list, "ar tv lib.a b a", api.Result{Out: b + a}, 1, list)
	wantRun(t, list, "ar tv lib.a b z b", missing(b, "z", "b"), 1, list)
	list = files{"t.a": put(thin(sized("gone", 9999999999)))}
	wantRun(t, list, "ar tv t.a", out("rw-r----- 1/2 9999999999 Jan  1 00:00 1970 gone"), 1, list)
	wantRun(t, list, "ar t t.a gone gone", missing("gone\n", "gone"), 1, list)
}

// 17.12: p and pv of a regular archive.
func TestPrinting(t *testing.T) {
	for _, c := range []struct {
		line string
		want api.Result
	}{
		{"ar p lib.a", api.Result{Out: "1234"}}, {"ar p lib.a c a", api.Result{Out: "41"}}, {"ar p lib.a a a", api.Result{Out: "13"}},
		{"ar p lib.a z a y", missing("1", "z", "y")}, {"ar p lib.a z z", missing("", "z", "z")},
		{"ar pv lib.a b a", api.Result{Out: "\n<b>\n\n2\n<a>\n\n1"}}, {"ar pv lib.a z b", missing("\n<b>\n\n2", "z")},
	} {
		wantRun(t, abac(), c.line, c.want, 1, abac())
	}
	list := files{"e.a": put(regular())}
	wantRun(t, list, "ar pv e.a", api.Result{}, 1, list)
	wantRun(t, list, "ar t e.a", api.Result{}, 1, list)
}

// thinFiles are a thin archive and its files, with bytes of other lengths and one that is missing.
func thinFiles() files {
	return files{
		"a": put("hello"), "b": put("hi"), "e": put(""), "long": put("longer"), temp: put("left"),
		"t.a": put(thin(sized("a", 5), sized("e", 0), sized("b", 2), sized("gone", 3), sized("a", 5), sized("long", 4), sized(temp, 4), sized("gone", 0))),
	}
}

// 17.12: p of a thin archive reads the files of those that are meant, in their order, and their refusals end it.
func TestPrintingThin(t *testing.T) {
	for _, c := range []struct {
		line  string
		want  api.Result
		calls int
	}{
		{"ar p t.a a", api.Result{Out: "hello"}, 2},
		{"ar p t.a b a a", api.Result{Out: "hihellohello"}, 4},
		{"ar pv t.a b e", api.Result{Out: "\n<b>\n\nhi\n<e>\n\n"}, 2},
		{"ar p t.a e", api.Result{}, 1},
		{"ar p t.a z b z", missing("hi", "z", "z"), 2},
		{"ar p t.a a a a", missing("hellohello", "a"), 3},
		{"ar p t.a", no("gone", api.ErrLost), 4},
		{"ar p t.a b long", no("long", api.ErrStale), 3},
		{"ar pv t.a b " + temp + " gone", no(temp, api.ErrReserved), 2},
		{"ar p t.a z long gone", no("long", api.ErrStale), 2},
		{"ar p t.a z gone gone", no("gone", api.ErrLost), 2},
		{"ar t t.a gone b gone", out("gone", "b", "gone"), 1},
	} {
		wantRun(t, thinFiles(), c.line, c.want, c.calls, thinFiles())
	}
	// S is no matter to p.
	c := api.Command{Op: 'p', Bare: true, Archive: "t.a", Names: []string{"b", "a"}}
	wantExec(t, thinFiles(), c, api.Result{Out: "hihello"}, 3, thinFiles())
	c.Names = []string{"long"}
	wantExec(t, thinFiles(), c, no("long", api.ErrStale), 2, thinFiles())
	wantStruck(t, thinFiles(), "ar p t.a b a e a", "t.a", "b", "a", "a")
	wantStruck(t, thinFiles(), "ar pv t.a z b", "t.a", "b")
	wantStruck(t, thinFiles(), "ar t t.a b", "t.a")
}

// 17.12: a name that no file can have, and a thin archive in which it stands for itself.
func TestPrintingThinNames(t *testing.T) {
	long := strings.Repeat("n", 65)
	size := len(thin(sized(long, 1), sized("t.a", 1)))
	list := files{"t.a": put(thin(sized(long, 1), sized("t.a", size)))}
	wantRun(t, list, "ar p t.a "+long, no(long, api.ErrLost), 2, list)
	wantRun(t, list, "ar p t.a t.a", api.Result{Out: list["t.a"].data}, 2, list)
	list = files{"t.a": put(thin(sized(long, 1), sized("t.a", size-1)))}
	wantRun(t, list, "ar p t.a t.a", no("t.a", api.ErrStale), 2, list)
}

// 17.11: nothing that the command is not asked for matters to t and p.
func TestLookFields(t *testing.T) {
	c := api.Command{Op: 't', Update: true, Quiet: true, Det: true, Dates: true, Bare: true, Thin: true, Kind: api.BSD, Pos: api.Pos{Where: api.After, Anchor: "z"}, Archive: "lib.a"}
	wantExec(t, abac(), c, out("a", "b", "a", "c"), 1, abac())
	c.Op = 'p'
	wantExec(t, abac(), c, api.Result{Out: "1234"}, 1, abac())
	for _, e := range []api.Env{{}, {Now: -1, UID: -1, GID: -1, Wide: -1}} {
		wantResult(t, "17.11", tool.Exec(durable(t, abac()), c, e), api.Result{Out: "1234"})
	}
}
