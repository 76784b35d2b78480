package tool_test

import (
	"strings"
	"testing"

	"shelf/api"
)

// sized is a member of a thin archive that tells this size.
func sized(name string, size int) api.Member { return api.Member{Meta: own, Name: name, Size: size} }

// 17.8: a member's file must be there, with as many bytes as its size; each is refused for itself, the archive as before.
func TestThinFiles(t *testing.T) {
	long := strings.Repeat("n", 65)
	for _, c := range []struct {
		first api.Member
		code  api.Errno
		calls int
	}{
		{sized("a.o", 5), api.OK, 2},
		{sized("a.o", 4), api.ErrStale, 2},
		{sized("a.o", 6), api.ErrStale, 2},
		{sized("a.o", 9999999999), api.ErrStale, 2},
		{sized("empty", 1), api.ErrStale, 2},
		{sized("gone", 5), api.ErrLost, 2},
		{sized(long, 5), api.ErrLost, 2},
		{sized(temp, 5), api.ErrReserved, 1},
		{sized("a.o", 0), api.OK, 1},
		{sized("gone", 0), api.OK, 1},
		{sized(temp, 0), api.OK, 1},
		{sized(long, 0), api.OK, 1},
	} {
		for _, own := range []files{{}, {temp: put("hello")}} {
			list := own.but("a.o", put("hello")).but("empty", put("")).but("t.a", put(thin(c.first)))
			left := list
			want := no(c.first.Name, c.code)
			calls := c.calls
			if c.code == api.OK {
				want = api.Result{}
				calls += 6
				left = list.without(temp).but("t.a", made(thin(c.first)))
			}
			for _, line := range []string{"ar s t.a", "ar m t.a", "ar d t.a", "ar rT t.a", "ar qT t.a", "ar mD t.a"} {
				if strings.Contains(line, "D") && c.code == api.OK {
					left = left.but("t.a", made(thin(normal(c.first))))
				}
				wantRun(t, list, line, want, calls, left)
			}
			if c.code != api.OK {
				want.Msg = strings.Replace(want.Msg, "ar:", "ranlib:", 1)
				wantRun(t, list, "ranlib t.a", want, calls, left)
			}
		}
	}
}

// 17.8: with S no file is read, whatever is there.
func TestThinBare(t *testing.T) {
	members := []api.Member{sized("gone", 5), sized(temp, 6), sized("a.o", 4), sized(strings.Repeat("n", 65), 1)}
	list := files{"a.o": put("hello"), "t.a": put(thin(members...))}
	for _, line := range []string{"ar mS t.a", "ar dS t.a", "ar rTS t.a", "ar qTS t.a"} {
		wantRun(t, list, line, api.Result{}, 7, list.but("t.a", made(thin(members...))))
	}
	wantRun(t, list, "ar rTS t.a a.o", api.Result{}, 9, list.but("t.a", made(thin(members[0], members[1], member("a.o", "hello"), members[3]))))
	wantExec(t, list, api.Command{Op: 's', Bare: true, Archive: "t.a"}, api.Result{}, 7, list.but("t.a", made(thin(members...))))
}

// 17.8: which files are read: those of the members behind the equation that are not new and not empty, in order.
func TestThinCalls(t *testing.T) {
	list := files{
		"a": put("1"), "b": put("22"), "c": put("333"), "e": put(""), "x": put("ex"),
		"t.a": put(thin(sized("a", 1), sized("e", 0), sized("b", 2), sized("a", 1), sized("c", 3))),
	}
	six := replacing("t.a", 400)
	for _, c := range []struct{ line, read string }{
		{"ar s t.a", "a b a c"},
		{"ranlib t.a", "a b a c"},
		{"ar d t.a b", "a a c"},
		{"ar d t.a a a b c e", ""},
		{"ar m t.a b", "a a c b"},
		{"ar mb a t.a c", "c a b a"},
		{"ar qT t.a x", "x x a b a c"},
		{"ar qT t.a a", "a a a b a c"},
		{"ar rT t.a x a", "x x a a b a c"},
		{"ar rTb a t.a c x", "c c x x a b a"},
		{"ar ruT t.a b", "b b a b a c"},
		{"ar rT t.a e", "e e a b a c"},
	} {
		names := append([]string{"t.a"}, strings.Fields(c.read)...)
		if strings.Contains(c.line, " d t.a a") {
			names = append(names, replacing("t.a", 8)...)
		} else {
			names = append(names, six...)
		}
		wantStruck(t, list, c.line, names...)
	}
}

// 17.8: the first member that is refused is told; what is deleted or replaced is not asked for.
func TestThinFirst(t *testing.T) {
	list := files{"a": put("1"), "b": put("22"), "c": put("new"), "t.a": put(thin(sized("a", 1), sized("gone", 5), sized("b", 9), sized(temp, 1), sized("c", 7)))}
	for _, c := range []struct {
		line, name string
		code       api.Errno
		calls      int
	}{
		{"ar s t.a", "gone", api.ErrLost, 3},
		{"ar d t.a gone", "b", api.ErrStale, 3},
		{"ar d t.a b gone", temp, api.ErrReserved, 2},
		{"ar m t.a gone", "b", api.ErrStale, 3},
		{"ar m t.a gone b", temp, api.ErrReserved, 2},
		{"ar mb a t.a c", "c", api.ErrStale, 2},
		{"ar rTb a t.a c", "gone", api.ErrLost, 5},
	} {
		wantRun(t, list, c.line, no(c.name, c.code), c.calls, list)
	}
	c := api.Command{Op: 'd', Archive: "t.a", Names: []string{temp, "b", "gone", "c"}}
	wantExec(t, list, c, api.Result{}, 8, list.but("t.a", made(thin(sized("a", 1)))))
	c = api.Command{Op: 'd', Archive: "t.a", Names: []string{temp, "b", "gone"}}
	wantExec(t, list, c, no("c", api.ErrStale), 3, list)
	c = api.Command{Op: 'r', Thin: true, Archive: "t.a", Names: []string{"c", "b"}}
	wantExec(t, list, c, no("gone", api.ErrLost), 1+4+2, list)
}

// 17.8: the files' bytes are there for the symbols, of old and of new members, and never in the archive.
func TestThinSymbols(t *testing.T) {
	f, g := object("f"), object("g", "h")
	list := files{"f.o": put(f), "g.o": put(g), "t.a": put(thin(member("f.o", f)))}
	heads := part("//", api.Meta{}, "f.o/\ng.o/\n") + head("/0", own, len(f)) + head("/5", own, len(g))
	at := 8 + 60 + 22 + 60 + 10
	want := "!<thin>\n" + part("/", api.Meta{Date: 100}, narrow(entry{"f", at}, entry{"g", at + 60}, entry{"h", at + 60})) + heads
	wantRun(t, list, "ar qT t.a g.o", api.Result{}, 10, list.but("t.a", made(want)))
	wantRun(t, list, "ar rTv t.a g.o", out("a - g.o"), 10, list.but("t.a", made(want)))
	wantRun(t, list, "ar qTS t.a g.o", api.Result{}, 9, list.but("t.a", made("!<thin>\n"+heads)))
	list["t.a"] = made(want)
	wantRun(t, list, "ar mS t.a", api.Result{}, 7, list.but("t.a", made("!<thin>\n"+heads)))
	wantRun(t, list, "ranlib t.a", api.Result{}, 9, list)
}

// 17.8: a regular archive reads no file, whatever its members are called.
func TestRegularReadsNone(t *testing.T) {
	for _, data := range []string{gnu(member("gone", "hello"), member(temp, "x")), bsd(member("gone", "hello"), member(temp, "x"))} {
		list := files{"lib.a": put(data)}
		for _, line := range []string{"ar s lib.a", "ar m lib.a", "ar d lib.a", "ar r lib.a", "ar q lib.a", "ranlib lib.a"} {
			wantRun(t, list, line, api.Result{}, 7, files{"lib.a": made(data)})
		}
		wantRun(t, list, "ar p lib.a", api.Result{Out: "hellox"}, 1, list)
	}
}
