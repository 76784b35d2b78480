package salvage_test

import (
	"fmt"
	"strings"
	"testing"
	"time"

	"shelf/api"
	"shelf/salvage"
)

// wantSoon wants that what is done ends soon.
func wantSoon(t *testing.T, what string, do func()) {
	t.Helper()
	begun := time.Now()
	do()
	if took := time.Since(begun); took > 20*time.Second {
		t.Errorf("%s took %v", what, took)
	}
}

// wantCount wants so many members and damages of b, soon.
func wantCount(t *testing.T, what, b string, members, damages int) {
	t.Helper()
	wantSoon(t, what, func() {
		p, list := salvage.Read(b)
		if len(p.Members) != members || len(p.At) != members || len(list) != damages {
			t.Errorf("%s: %d members, %d damages, want %d, %d", what, len(p.Members), len(list), members, damages)
		}
	})
}

// R1: great files end soon: without a part, with ends of headers everywhere, with a damage ahead of each part, with headers that seem to have all the rest as their data.
func TestGreatFiles(t *testing.T) {
	const n = 1 << 20
	a, half := h("a/", 0), fmt.Sprint("#1/", n/2)
	wantCount(t, "no part", strings.Repeat("x", 32*n), 0, 1)
	wantCount(t, "ends of headers", regular+strings.Repeat(tail, n), 0, 1)
	wantCount(t, "blanks and ends", regular+strings.Repeat(strings.Repeat(" ", 58)+tail, n/60), 0, 1)
	wantCount(t, "a damage ahead of each part", strings.Repeat("x"+a, n/61), n/61, n/61)
	wantCount(t, "each part refused", regular+a+strings.Repeat(h("b", 0), n/60)+a, 2, 1)
	wantCount(t, "data beyond the end", regular+strings.Repeat(h("a/", 2*n), n/60)+a, 1, 1)
	wantCount(t, "names of zeros", regular+strings.Repeat(h(half, n/2), n/120)+strings.Repeat("\x00", n), 0, 1)
	wantCount(t, "no long name", regular+h("//", n/2)+strings.Repeat("x/", n/4)+strings.Repeat(h("/0", 0), n/240), 0, 1)
	wantCount(t, "members", regular+strings.Repeat(a, n/10), n/10, 0)
}

// 22.6: more members than an archive may have, and names that are too long together, are refused at the new name; as many as may be are saved.
func TestTooMany(t *testing.T) {
	most := regular + strings.Repeat(h("a/", 0), api.MaxMembers)
	name := strings.Repeat("n", 66000)
	table := regular + whole("//", name+"/\n")
	list := files{"most": put(most), "more": put(most + h("a/", 0)), "names": put(table + strings.Repeat(h("/0", 0), 1017))}
	f := roomFor(t, 1<<25, list)
	wantSoon(t, "too many", func() {
		wantResult(t, "more", salvage.Run(f, "more", "new", env), no("new", api.ErrRange))
		wantResult(t, "names", salvage.Run(f, "names", "new", env), no("new", api.ErrSize))
		wantFiles(t, "refused", f, list)
		wantResult(t, "most", salvage.Run(f, "most", "new", env), api.Result{})
		wantFiles(t, "most", f, list.but("new", made(most)))
	})
}
