package order_test

import (
	"testing"

	"shelf/api"
)

// The chapter's examples of Edges, row by row.
func TestEdgesExamples(t *testing.T) {
	for _, x := range [][2]string{
		{"a: f: g, b: g:", "a a, a b, b b"},
		{"a:: f h f, b: f h:, c: f:", "a a, a b, a c, b b, c c"},
		{"a: f: f", "a a"},
		{"a: f: f, a: f: f", "a a"},
		{"a:: f, b:: g", "a a, b b"},
	} {
		wantEdges(t, x[0], nodes(x[0]), pairs(x[1]))
	}
}

// The chapter's examples of Sort, row by row.
func TestSortExamples(t *testing.T) {
	for _, x := range [][3]string{
		{"a a, a b, b b", "a b", ""},
		{"b a, c a", "b c a", ""},
		{"a b, c a", "c a b", ""},
		{"x x, b a, y y", "x b a y", ""},
		{"a b, b a", "a b", "a b"},
		{"a b, b c, c b, c d", "a b c d", "b c"},
		{"a a, b a, b c, c b", "b a c", "b c"},
		{"a b, a c, b a, c a", "a b c", "a b; a c"},
		{"", "", ""},
	} {
		wantSort(t, x[0], pairs(x[0]), words(x[1]), loops(x[2]))
	}
}

// The chapter's examples of Run, row by row.
func TestRunExamples(t *testing.T) {
	list := files{"m.o": obj("main", "f"), "f.o": obj("f", ""), "text": "hi"}
	wantRun(t, list, nil, api.Result{}, 0)
	wantRun(t, list, words("m.o f.o text"), api.Result{Out: "m.o\nf.o\ntext\n"}, 3)
	wantRun(t, list, words("no"), api.Result{Msg: "lorder: no: no such file\n", Code: api.ErrMissing}, 1)
}
