package tool_test

import (
	"testing"

	"shelf/api"
	"shelf/tool"
)

// 17.9: the archive's bytes of each kind, with the index and without, with D and without, from each operation.
func TestBytes(t *testing.T) {
	b := member("b.o", object("f"))
	for _, det := range []bool{false, true} {
		meta, stamp, m := own, 100, b
		if det {
			meta, stamp, m = api.Meta{Mode: 0o644}, 0, normal(b)
		}
		news := indexedThree(meta, stamp)
		bare := map[string]string{"g.a": gnu(m), "b.a": bsd(m), "t.a": thin(m)}
		for _, op := range []byte("dmqrs") {
			for _, archive := range []string{"g.a", "b.a", "t.a"} {
				calls := 7
				if archive == "t.a" {
					calls++
				}
				c := api.Command{Op: op, Archive: archive, Det: det, Thin: archive == "t.a"}
				wantExec(t, three(), c, api.Result{}, calls, three().but(archive, news[archive]))
				c.Bare = true
				wantExec(t, three(), c, api.Result{}, 7, three().but(archive, made(bare[archive])))
			}
		}
	}
}

// 17.9: an archive that is made has its index too.
func TestBytesMade(t *testing.T) {
	list := files{"b.o": three()["b.o"]}
	for line, archive := range map[string]string{"ar rc g.a b.o": "g.a", "ar --format=bsd qc b.a b.o": "b.a", "ar qcT t.a b.o": "t.a"} {
		wantRun(t, list, line, api.Result{}, 9, list.but(archive, indexedThree(own, 100)[archive]))
	}
	for line, archive := range map[string]string{"ar rcD g.a b.o": "g.a", "ar --format=bsd qcD b.a b.o": "b.a", "ar qcTD t.a b.o": "t.a"} {
		wantRun(t, list, line, api.Result{}, 9, list.but(archive, indexedThree(api.Meta{Mode: 0o644}, 0)[archive]))
	}
}

// 17.9: the threshold is env.Wide, and 2 to the 32 if that is 0; below it the narrow index stands, from it on the wide one.
func TestThreshold(t *testing.T) {
	f := object("f")
	index := api.Meta{Date: 100}
	narrowest := indexed(own, 100)
	widest := regular(part("/SYM64/", index, wide(entry{"f", 86})), part("b.o/", own, f))
	for _, c := range []struct {
		wide int
		want string
		code api.Errno
	}{
		{0, narrowest, api.OK}, {79, narrowest, api.OK}, {api.Wide32, narrowest, api.OK}, {78, widest, api.OK}, {1, widest, api.OK},
		{-1, "", api.ErrRange}, {api.Wide32 + 1, "", api.ErrRange},
	} {
		v := durable(t, three())
		e := env
		e.Wide = c.wide
		want, left := api.Result{}, three().but("g.a", made(c.want))
		if c.code != api.OK {
			want, left = no("g.a", c.code), three()
		}
		wantResult(t, "17.9: wide", tool.Run(v, args("ar s g.a"), e), want)
		wantFiles(t, "17.9: wide", v, left)
		v = durable(t, three())
		wantResult(t, "17.9: wide, bare", tool.Run(v, args("ar mS g.a"), e), api.Result{})
		wantFiles(t, "17.9: wide, bare", v, three().but("g.a", made(three()["g.a"].data)))
	}
	v := durable(t, three())
	wantResult(t, "17.9: BSD, too far", tool.Run(v, args("ar s b.a"), api.Env{Wide: 86}), no("b.a", api.ErrFar))
	wantCalls(t, "17.9: BSD, too far", v, 1)
	wantFiles(t, "17.9: BSD, too far", v, three())
}

// 17.9: what cannot be built is refused with the archive's name, whoever is to blame, ahead of any call that writes.
func TestBuildRefused(t *testing.T) {
	late := api.Meta{Date: 1000000000000, Mode: 0o644}
	list := three().but("late", file{"x", late}).but("neg", file{"x", api.Meta{UID: -1}})
	for _, c := range []struct {
		line string
		e    api.Env
		code api.Errno
	}{
		{"ar r g.a late", env, api.ErrWide}, {"ar rT t.a neg", env, api.ErrWide}, {"ar q b.a late", env, api.ErrWide}, {"ar qc new.a neg", env, api.ErrWide}, {"ar qcS new.a late", env, api.ErrWide},
		{"ar s g.a", api.Env{Now: -1}, api.ErrWide}, {"ar s t.a", api.Env{Now: 1000000000000}, api.ErrWide},
		{"ar rD g.a late", env, api.OK}, {"ar rDT t.a neg", env, api.OK}, {"ar sD g.a", api.Env{Now: -1}, api.OK}, {"ar mS g.a", api.Env{Now: -1}, api.OK}, {"ar qc new.a b.a", api.Env{Now: -5}, api.OK},
	} {
		v := durable(t, list)
		got := tool.Run(v, args(c.line), c.e)
		if c.code == api.OK {
			wantResult(t, "17.9: "+c.line, got, api.Result{})
			continue
		}
		wantResult(t, "17.9: "+c.line, got, no(args(c.line)[2], c.code))
		wantFiles(t, "17.9: "+c.line, v, list)
	}
}

// 17.9: D makes all members anew, those that were there before too; without D none changes.
func TestNormalAll(t *testing.T) {
	a, b := member("a", "1"), dated(member("b", "2"), 77)
	list := files{"lib.a": put(gnu(a, b)), "c": put("3")}
	wantRun(t, list, "ar rD lib.a c", api.Result{}, 9, list.but("lib.a", made(gnu(normal(a), normal(b), normal(member("c", "3"))))))
	wantRun(t, list, "ar r lib.a c", api.Result{}, 9, list.but("lib.a", made(gnu(a, b, member("c", "3")))))
	wantRun(t, list, "ar dD lib.a a", api.Result{}, 7, list.but("lib.a", made(gnu(normal(b)))))
	wantRun(t, list, "ranlib -D lib.a", api.Result{}, 7, list.but("lib.a", made(gnu(normal(a), normal(b)))))
}

// 17.9: an index that was there is made anew, and let go where nothing is defined any more.
func TestIndexAnew(t *testing.T) {
	odd := regular(part("/", api.Meta{Date: 3}, "no index at all."), part("a/", own, "1"))
	wantRun(t, files{"lib.a": put(odd)}, "ar s lib.a", api.Result{}, 7, files{"lib.a": made(gnu(member("a", "1")))})
	list := files{"lib.a": put(indexed(own, 3))}
	wantRun(t, list, "ar s lib.a", api.Result{}, 7, files{"lib.a": made(indexed(own, 100))})
	wantRun(t, list, "ar d lib.a b.o", api.Result{}, 7, files{"lib.a": made(regular())})
	wantRun(t, list, "ar dS lib.a", api.Result{}, 7, files{"lib.a": made(gnu(member("b.o", object("f"))))})
}
