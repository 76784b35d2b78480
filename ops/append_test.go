package ops_test

import (
	"math"
	"slices"
	"testing"

	"shelf/api"
	"shelf/ops"
)

// 13.6: one behind the other, whatever names are there already.
func TestAppend(t *testing.T) {
	wantAppend(t, "", "", "")
	wantAppend(t, "a.1:p b.2:q", "", "a.1:p b.2:q")
	wantAppend(t, "", "a.1:p b.2:q", "a.1:p b.2:q")
	wantAppend(t, "a.1:p b.2:q", "c.3:r", "a.1:p b.2:q c.3:r")
	wantAppend(t, "a:1 b:1", "b:2 a:2 b:3", "a:1 b:1 b:2 a:2 b:3")
	wantAppend(t, "a.9:1", "a.1:2 a.1:2", "a.9:1 a.1:2 a.1:2")
	wantAppend(t, "- a", "-", "- a -")
	both := list("a:1 b:2 a:3")
	if l := ops.Append(both, both); !slices.Equal(l, list("a:1 b:2 a:3 a:1 b:2 a:3")) {
		t.Errorf("a list behind itself: %s", told(l))
	}
}

// 13.7: what hangs on who and when is taken, field by field, and nothing else.
func TestNormal(t *testing.T) {
	plain := api.Member{Meta: api.Meta{Mode: 0o644}, Name: "a/ \xff", Size: -9, Data: "data"}
	for _, n := range []int{0, 1, -1, 0o644, 0o100755, 1 << 32, math.MinInt, math.MaxInt} {
		for _, meta := range []api.Meta{{Date: n, Mode: 0o644}, {UID: n, Mode: 0o644}, {GID: n, Mode: 0o644}, {Mode: n}, {Date: n, UID: n, GID: n, Mode: n}} {
			m := plain
			m.Meta = meta
			if l := ops.Normal([]api.Member{m}); !slices.Equal(l, []api.Member{plain}) {
				t.Errorf("%#v becomes %#v", m, l)
			}
		}
	}
}

// 13.7: the members keep their order, their names and data; those of one name too.
func TestNormalOrder(t *testing.T) {
	in := list("b.3:p a.2:q - b.1:r")
	l := ops.Normal(in)
	if len(l) != len(in) {
		t.Fatalf("%s", told(l))
	}
	for i, m := range in {
		if want := (api.Member{Meta: api.Meta{Mode: 420}, Name: m.Name, Size: m.Size, Data: m.Data}); l[i] != want {
			t.Errorf("%#v becomes %#v", m, l[i])
		}
	}
	if again := ops.Normal(l); !slices.Equal(again, l) {
		t.Errorf("%#v becomes %#v", l, again)
	}
	if l := ops.Normal(nil); len(l) != 0 {
		t.Errorf("nothing becomes %v", l)
	}
}
