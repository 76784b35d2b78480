package salvage_test

import (
	"fmt"
	"maps"
	"slices"
	"testing"

	"shelf/api"
	"shelf/arc"
	"shelf/salvage"
	"shelf/vfs"
)

// wantSound wants that the file to holds an archive of just these members.
func wantSound(t *testing.T, what string, data string, p api.Parsed) {
	t.Helper()
	got, _, e := arc.Parse(data)
	if e != api.OK || !slices.Equal(got.Members, p.Members) {
		t.Errorf("%s: %v, %s of %q, want the members of %s", what, e, short(got), data, short(p))
	}
}

// 22.11: behind a Run that saved, the new file is sound and has the members that Read told; a second Run tells no damage and leaves the same bytes.
func TestSecondRun(t *testing.T) {
	damaged := 0
	for seed := range 8000 {
		d := newDice(seed)
		b := d.file()
		env := api.Env{Now: 100, UID: 7, GID: 8, Wide: one(d, 0, 0, 80, 300)}
		to := one(d, "a", "b")
		f := durable(t, files{"a": put(b)})
		what := fmt.Sprintf("22.11: seed %d: %q", seed, b)
		r := salvage.Run(f, "a", to, env)
		if r.Code != api.OK && r.Code != api.ErrDamage {
			continue
		}
		if r.Code == api.ErrDamage {
			damaged++
		}
		p, _ := salvage.Read(b)
		first := look(t, f)
		wantSound(t, what, first[to].data, p)
		wantResult(t, what, salvage.Run(f, to, to, env), api.Result{})
		wantFiles(t, what, f, first)
		wantResult(t, what, salvage.Run(f, to, "c", env), api.Result{})
		wantFiles(t, what, f, first.but("c", first[to]))
		if t.Failed() {
			return
		}
	}
	if damaged < 3000 {
		t.Errorf("the test met %d damaged archives", damaged)
	}
}

// 22.11: the second Run finds room beside the bytes that the first one left.
func TestSecondRunInLittleRoom(t *testing.T) {
	list := files{"bad.a": put(badA)}
	f := roomFor(t, len(badA)+2*len(goodA), list)
	wantResult(t, "first", salvage.Run(f, "bad.a", "good.a", env), telling(badAt))
	wantResult(t, "second", salvage.Run(f, "good.a", "good.a", env), api.Result{})
	wantFiles(t, "second", f, list.but("good.a", made(goodA)))
}

// cuts are the restarts that tests choose from.
func cuts(d dice) (int, []int) {
	return d.Intn(5), []int{d.Intn(100), d.Intn(2000), d.Intn(3)}
}

// 22.11: whatever faults strike, the file to has its old bytes or the new ones, and no other file changes; so behind a power cut, too.
func TestAtOnceOrNotAtAll(t *testing.T) {
	met := map[api.Errno]int{}
	for seed := range 6000 {
		d := newDice(seed)
		before := files{"a": put(one(d, d.file, d.sound)()), "b": put(one(d, "old", d.file()))}
		to := one(d, "a", "b", "c")
		want, _, behind := toldRun(before, "a", to, env)
		what := fmt.Sprintf("22.11: seed %d to %q", seed, to)
		f := durable(t, before)
		var plan []api.Fault
		for i := range 1 + d.Intn(3) {
			plan = append(plan, api.Fault{At: i*4 + 1 + d.Intn(8), Kind: one(d, kinds()...), N: d.Intn(600)})
		}
		slices.SortFunc(plan, func(x, y api.Fault) int { return x.At - y.At })
		f.Arm(plan)
		r := salvage.Run(f, "a", to, env)
		met[r.Code]++
		wantOldOrNew(t, what, d, f, r, want, before, behind)
		if t.Failed() {
			t.Fatalf("%s: %v", what, plan)
		}
	}
	for _, e := range []api.Errno{api.OK, api.ErrDamage, api.ErrIO, api.ErrDown, api.ErrUnsure} {
		if met[e] < 50 {
			t.Errorf("the test met %v %d times", e, met[e])
		}
	}
}

// wantOldOrNew wants of the answer r of a Run that answers want if nothing strikes that it left the files as they were, or as they are to be.
func wantOldOrNew(t *testing.T, what string, d dice, f *vfs.FS, r, want api.Result, before, behind files) {
	t.Helper()
	saved := r.Code == api.OK || r.Code == api.ErrDamage
	if saved {
		wantResult(t, what, r, want)
	} else if r.Out != "" || r.Msg == "" {
		t.Errorf("%s: refused with %v", what, r)
	}
	down := f.Down()
	if !down {
		now := before
		if saved || r.Code == api.ErrUnsure {
			now = behind
		}
		got := look(t, f)
		if !maps.Equal(got.without(temp), now) {
			t.Errorf("%s: %v: the files are %v, want %v", what, r.Code, got, now)
		}
	}
	f.Restart(cuts(d))
	got := look(t, f).without(temp)
	if !maps.Equal(got, behind) && (saved || !maps.Equal(got, before)) {
		t.Errorf("%s: %v: behind the power cut the files are %v", what, r.Code, got)
	}
	if !down && !saved && r.Code != api.ErrUnsure && !maps.Equal(got, before) {
		t.Errorf("%s: %v: behind the power cut the files are not as before: %v", what, r.Code, got)
	}
}

// 22.11: the power goes at each call, and the restart keeps what it likes.
func TestPowerCutAtEachCall(t *testing.T) {
	before := files{"a": put(badA), "old": put("old")}
	for _, to := range []string{"a", "old", "new"} {
		want, calls, behind := toldRun(before, "a", to, env)
		for n := 1; n <= calls+1; n++ {
			for keep := range 5 {
				for _, cut := range [][]int{nil, {0}, {3}, {1000, 1000, 1000}} {
					what := fmt.Sprintf("22.11: to %q, call %d, Restart(%d, %v)", to, n, keep, cut)
					f := durable(t, before)
					f.Arm([]api.Fault{{At: n, Kind: api.FaultDown}})
					r := salvage.Run(f, "a", to, env)
					if n > calls {
						wantResult(t, what, r, want)
					}
					f.Restart(keep, cut)
					got := look(t, f).without(temp)
					if !maps.Equal(got, behind) && (n > calls || !maps.Equal(got, before)) {
						t.Errorf("%s: the files are %v", what, got)
					}
				}
			}
		}
	}
}

// 22.11: a file that an earlier Run left behind does no harm.
func TestLeftOver(t *testing.T) {
	before := files{"a": put(badA), temp: put("left over")}
	want, calls, behind := toldRun(before, "a", "b", env)
	wantRun(t, before, "a", "b", env, want, calls, behind)
	if behind[temp] != (file{}) {
		t.Errorf("the model leaves %v", behind[temp])
	}
}
