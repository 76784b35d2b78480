package index

import (
	"math"
	"testing"

	"shelf/api"
)

// 11.3: counts and lengths around those that the form's numbers cannot tell. Lists of so many entries have no room in a test, so what decides on them is asked itself.
func TestFits(t *testing.T) {
	for _, x := range []struct {
		form api.Form
		b    bulk
		fits bool
	}{
		{api.Index32, bulk{}, true},
		{api.Index32, bulk{1<<32 - 1, 1 << 33}, true},
		{api.Index32, bulk{1 << 32, 1 << 33}, false},
		{api.Index32, bulk{1<<32 + 1, 1 << 34}, false},
		{api.Index32, bulk{1, 1 << 32}, true},
		{api.Index32, bulk{1, 1 << 40}, true},
		{api.Index64, bulk{}, true},
		{api.Index64, bulk{1 << 32, 1 << 33}, true},
		{api.Index64, bulk{1 << 59, 1 << 60}, true},
		{api.Index64, bulk{1, 1 << 40}, true},
		{api.IndexBSD, bulk{}, true},
		{api.IndexBSD, bulk{1<<29 - 1, 1 << 30}, true},
		{api.IndexBSD, bulk{1 << 29, 1 << 30}, false},
		{api.IndexBSD, bulk{1<<29 + 1, 1 << 31}, false},
		{api.IndexBSD, bulk{1 << 32, 1 << 33}, false},
		{api.IndexBSD, bulk{1, 1<<32 - 2}, true},
		{api.IndexBSD, bulk{1, 1 << 32}, false},
		{api.IndexBSD, bulk{1, 1 << 40}, false},
		{api.IndexBSD, bulk{1<<29 - 1, 1<<32 - 2}, true},
		{api.IndexBSD, bulk{1<<29 - 1, 1 << 32}, false},
	} {
		c, e := codecOf(x.form)
		if e != api.OK || c.fits(c, x.b) != x.fits {
			t.Errorf("form %d: %+v fits: %v, want %v", x.form, x.b, !x.fits, x.fits)
		}
	}
}

// 11.2: lengths beyond what a test has room for.
func TestLength(t *testing.T) {
	for _, x := range []struct {
		form   api.Form
		b      bulk
		length int
	}{
		{api.Index32, bulk{1<<29 - 1, 1 << 30}, 1<<31 + 1<<30},
		{api.Index64, bulk{1<<29 - 1, 1 << 30}, 1<<32 + 1<<30},
		{api.IndexBSD, bulk{1<<29 - 1, 1 << 30}, 1<<32 + 1<<30},
	} {
		c, _ := codecOf(x.form)
		if n := c.length(c, x.b); n != x.length {
			t.Errorf("form %d: %+v has the length %d, want %d", x.form, x.b, n, x.length)
		}
	}
}

// 11.3: what a number of each form holds.
func TestHolds(t *testing.T) {
	for _, x := range []struct {
		v            int
		narrow, wide bool
	}{
		{math.MinInt, false, false}, {-1 << 32, false, false}, {-1, false, false}, {0, true, true}, {1, true, true},
		{1<<31 - 1, true, true}, {1 << 31, true, true}, {1<<32 - 1, true, true}, {1 << 32, false, true}, {math.MaxInt, false, true},
	} {
		for _, c := range codecs() {
			want := x.narrow
			if c.form == api.Index64 {
				want = x.wide
			}
			if c.holds(x.v) != want {
				t.Errorf("form %d holds %d: %v", c.form, x.v, !want)
			}
		}
	}
}
