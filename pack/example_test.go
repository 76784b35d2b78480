package pack_test

import (
	"testing"

	"shelf/api"
)

// The chapter's examples of Plan, row by row.
func TestExamplesOfPlan(t *testing.T) {
	ab := units(unit("a.o", 10, "f"), unit("b", 3))
	wantPlan(t, api.GNU, ab, 1<<32, plan([]int{78, 148}, 0, 212, api.Index32, 10))
	wantPlan(t, api.GNU, ab, 79, plan([]int{78, 148}, 0, 212, api.Index32, 10))
	wantPlan(t, api.GNU, ab, 78, plan([]int{86, 156}, 0, 220, api.Index64, 18))
	wantPlan(t, api.GNU, ab, 1, plan([]int{86, 156}, 0, 220, api.Index64, 18))
	wantPlan(t, api.GNU, units(unit("a.o", 10), unit("b", 3, "f")), 100, plan([]int{86, 156}, 0, 220, api.Index64, 18))
	wantPlan(t, api.GNU, ab, 100, plan([]int{78, 148}, 0, 212, api.Index32, 10))
	wantPlan(t, api.BSD, ab, 87, plan([]int{86, 156}, 0, 220, api.IndexBSD, 18))
	wantNoPlan(t, api.BSD, ab, 86, api.ErrFar)
	wantPlan(t, api.Thin, ab, 1<<32, plan([]int{146, 206}, 8, 266, api.Index32, 10))
	wantPlan(t, api.Thin, ab, 146, plan([]int{154, 214}, 8, 274, api.Index64, 18))
	wantPlan(t, api.GNU, units(unit("a", 9999999999, "f"), unit("b", 1, "g")), 1<<32, plan([]int{96, 10000000156}, 0, 10000000218, api.Index64, 28))
	wantNoPlan(t, api.BSD, units(unit("a", 9999999999, "f"), unit("b", 1, "g")), 1<<32, api.ErrFar)
	wantPlan(t, api.BSD, units(unit("a", 9999999999, "f"), unit("b", 1)), 1<<32, plan([]int{86, 10000000146}, 0, 10000000208, api.IndexBSD, 18))
	wantPlan(t, api.GNU, units(unit("a", 3)), 1, plan([]int{8}, 0, 72, api.NoIndex, 0))
	wantNoPlan(t, api.GNU, units(unit("a/b", 3)), 0, api.ErrRange)
	wantNoPlan(t, 3, nil, 1, api.ErrRange)
	wantNoPlan(t, api.GNU, units(unit("a/b", -1, "")), 1, api.ErrName)
}

// The chapter's examples of Build, row by row.
func TestExamplesOfBuild(t *testing.T) {
	list := []api.Member{{Meta: api.Meta{Mode: 0o644}, Name: "n", Size: 2, Data: "xy"}}
	want := "!<arch>\n" + "n/              0           0     0     644     2         `\n" + "xy"
	if len(want) != 70 {
		t.Fatalf("the example has %d bytes", len(want))
	}
	wantBuild(t, api.GNU, list, 9, 1, false, want)
	for _, wide := range append(noThresholds(), 1, 2, 1<<32) {
		wantBuild(t, api.GNU, list, 9, wide, true, want)
	}
	wantNoBuild(t, api.GNU, list, 9, 0, false, api.ErrRange)
}
