package order_test

import (
	"fmt"
	"maps"
	"slices"
	"strings"
	"testing"

	"shelf/api"
	"shelf/order"
	"shelf/vfs"
)

const temp = api.TempName

// node is one of a name, the names that it defines, and those that it needs.
func node(name, defines, needs string) api.Node {
	return api.Node{Name: name, Defines: words(defines), Needs: words(needs)}
}

// nodes are those of a text like "a: f: g h, b: g:".
func nodes(s string) []api.Node {
	var list []api.Node
	for _, x := range strings.Split(s, ",") {
		if p := strings.Split(x, ":"); len(p) == 3 {
			list = append(list, node(strings.TrimSpace(p[0]), p[1], p[2]))
		}
	}
	return list
}

// pairs are the edges of a text like "a b, b c".
func pairs(s string) []api.Edge {
	var list []api.Edge
	for _, x := range strings.Split(s, ",") {
		if p := words(x); len(p) == 2 {
			list = append(list, api.Edge{From: p[0], To: p[1]})
		}
	}
	return list
}

// loops are those of a text like "a b; c d e".
func loops(s string) [][]string {
	var list [][]string
	for _, x := range strings.Split(s, ";") {
		if p := words(x); len(p) > 0 {
			list = append(list, p)
		}
	}
	return list
}

func sameLoops(a, b [][]string) bool { return slices.EqualFunc(a, b, slices.Equal[[]string]) }

// wantEdges: does Edges answer this?
func wantEdges(t *testing.T, what string, list []api.Node, want []api.Edge) {
	t.Helper()
	if got := order.Edges(list); !slices.Equal(got, want) {
		t.Errorf("%s: Edges(%q) =\n%q, want\n%q", what, list, got, want)
	}
}

// wantSort: does Sort answer this?
func wantSort(t *testing.T, what string, edges []api.Edge, names []string, circles [][]string) {
	t.Helper()
	if got, told := order.Sort(edges); !slices.Equal(got, names) || !sameLoops(told, circles) {
		t.Errorf("%s: Sort(%q) =\n%q, %q, want\n%q, %q", what, edges, got, told, names, circles)
	}
}

// files are the bytes of a volume's files by their names.
type files map[string]string

func must(t *testing.T, err error) {
	t.Helper()
	if err != nil {
		t.Fatal(err)
	}
}

// unsettled makes a volume with just these files, whose names are pending; their bytes are loose unless they are made durable. The count is 0.
func unsettled(t *testing.T, list files, sync bool) *vfs.FS {
	t.Helper()
	f := vfs.New(1 << 20)
	for _, name := range slices.Sorted(maps.Keys(list)) {
		h, err := f.Create(name, api.Meta{Date: 5, UID: 1, GID: 2, Mode: 0o644})
		must(t, err)
		_, err = h.Write(list[name])
		must(t, err)
		if sync {
			must(t, h.Sync())
		}
		must(t, h.Close())
	}
	f.Arm(nil)
	return f
}

// durable makes a volume with just these files, all durable; the count is 0.
func durable(t *testing.T, list files) *vfs.FS {
	t.Helper()
	f := unsettled(t, list, true)
	f.Restart(2*api.MaxFiles, nil)
	return f
}

// look tells all the files of a volume with the power on. It takes the plan away.
func look(t *testing.T, f *vfs.FS) files {
	t.Helper()
	f.Arm(nil)
	names, err := f.List()
	must(t, err)
	out := files{}
	for _, name := range names {
		data, err := f.ReadFile(name)
		must(t, err)
		out[name] = data
	}
	return out
}

func wantFiles(t *testing.T, what string, f *vfs.FS, want files) {
	t.Helper()
	if got := look(t, f); !maps.Equal(got, want) {
		t.Errorf("%s: the files are %q, want %q", what, got, want)
	}
}

func wantCalls(t *testing.T, what string, f *vfs.FS, n int) {
	t.Helper()
	if f.Calls() != n {
		t.Errorf("%s: %d calls, want %d", what, f.Calls(), n)
	}
}

func wantResult(t *testing.T, what string, got, want api.Result) {
	t.Helper()
	if got != want {
		t.Errorf("%s:\n got %q, %q, %d\nwant %q, %q, %d", what, got.Out, got.Msg, got.Code, want.Out, want.Msg, want.Code)
	}
}

// lines are texts, each with a newline.
func lines(list ...string) string {
	out := ""
	for _, l := range list {
		out += l + "\n"
	}
	return out
}

// told is an answer of these names, as they are quoted, with these loops.
func told(names string, circles ...string) api.Result {
	r := api.Result{Out: lines(words(names)...)}
	for _, l := range circles {
		r.Msg += "tsort: input contains a loop: " + l + "\n"
		r.Code = api.ErrLoop
	}
	return r
}

// no is a refusal at a name, as it is quoted.
func no(name string, code api.Errno) api.Result {
	return api.Result{Msg: "lorder: " + name + ": " + code.Error() + "\n", Code: code}
}

// wantRun: on a new volume with these files the names answer this by so many calls, and no file is changed.
func wantRun(t *testing.T, list files, names []string, want api.Result, calls int) {
	t.Helper()
	what := fmt.Sprintf("Run(%q)", names)
	f := durable(t, list)
	wantResult(t, what, order.Run(f, names), want)
	wantCalls(t, what, f, calls)
	wantFiles(t, what, f, list)
}

// kinds are the kinds of faults.
func kinds() []int { return []int{api.FaultIO, api.FaultShort, api.FaultDown} }

// struck is the Errno of a call that a fault of this kind strikes.
func struck(kind int) api.Errno {
	if kind == api.FaultDown {
		return api.ErrDown
	}
	return api.ErrIO
}
