package lay_test

import (
	"testing"

	"shelf/api"
)

// The chapter's examples of Plan, row by row.
func TestExamplesOfPlan(t *testing.T) {
	const most = 9999999999
	wantPlan(t, api.GNU, nil, -1, nil, 0, 8)
	wantPlan(t, api.GNU, nil, 0, nil, 0, 68)
	wantPlan(t, api.BSD, nil, 5, nil, 0, 74)
	wantPlan(t, api.GNU, specs(spec("a", 1), spec("b", 2), spec("c", 0)), -1, []int{8, 70, 132}, 0, 192)
	wantPlan(t, api.Thin, specs(spec("a", 1), spec("b", 2)), -1, []int{74, 134}, 6, 194)
	wantPlan(t, api.GNU, specs(spec("sixteen-letters.", 3)), 7, []int{154}, 18, 218)
	wantPlan(t, api.BSD, specs(spec("a name", 3), spec("b", 3)), -1, []int{8, 78}, 0, 142)
	wantPlan(t, api.GNU, specs(spec("a", most), spec("b", most)), -1, []int{8, 10000000068}, 0, 20000000128)
	wantNoPlan(t, api.GNU, specs(spec("a", 10000000000)), -1, api.ErrSize)
	wantNoPlan(t, api.GNU, specs(spec("a/b", -1)), -1, api.ErrName)
	wantNoPlan(t, 3, nil, -1, api.ErrRange)
	wantNoPlan(t, 3, specs(spec("a/b", -1)), -2, api.ErrRange)
	wantNoPlan(t, api.BSD, specs(spec("a name", 9999999994)), -1, api.ErrSize)
	wantPlan(t, api.BSD, specs(spec("a name", 9999999993)), -1, []int{8}, 0, 10000000068)
}

// The chapter's examples of Write, row by row.
func TestExamplesOfWrite(t *testing.T) {
	b := "!<arch>\n" + "a/              0           0     0     644     1         `\n" + "x\n"
	if len(b) != 70 {
		t.Fatalf("the example has %d bytes", len(b))
	}
	wantWrite(t, api.Archive{Members: []api.Member{mem("a", "x")}}, b)
	wantNoWrite(t, api.Archive{Form: api.IndexBSD}, api.ErrForm)
	wantNoWrite(t, api.Archive{Stamp: 1}, api.ErrForm)
	short := api.Member{Meta: plain, Name: "a", Size: 2, Data: "x"}
	wantNoWrite(t, api.Archive{Members: []api.Member{short}}, api.ErrSize)
	wantNoWrite(t, api.Archive{Kind: api.Thin, Members: []api.Member{mem("a", "x")}}, api.ErrSize)
	short.UID = -1
	wantNoWrite(t, api.Archive{Members: []api.Member{short}}, api.ErrSize)
	wantNoWrite(t, api.Archive{Members: []api.Member{short, mem("", "")}}, api.ErrName)
	short.Name = ""
	wantNoWrite(t, api.Archive{Members: []api.Member{short}}, api.ErrName)
}
