package order_test

// The chapter's own words once more, as plainly as they can be written, to hold the package against.

import (
	"errors"
	"slices"
	"strings"

	"shelf/api"
	"shelf/syms"
	"shelf/text"
	"shelf/vfs"
)

// toldEdges is 21.1.
func toldEdges(list []api.Node) []api.Edge {
	var edges []api.Edge
	put := func(from, to string) {
		if e := (api.Edge{From: from, To: to}); !slices.Contains(edges, e) {
			edges = append(edges, e)
		}
	}
	for i, n := range list {
		put(n.Name, n.Name)
		for _, need := range n.Needs {
			for k, other := range list {
				if k != i && slices.Contains(other.Defines, need) {
					put(n.Name, other.Name)
				}
			}
		}
	}
	return edges
}

// toldNodes is 21.2.
func toldNodes(edges []api.Edge) []string {
	var names []string
	for _, e := range edges {
		for _, name := range []string{e.From, e.To} {
			if !slices.Contains(names, name) {
				names = append(names, name)
			}
		}
	}
	return names
}

// leading is the first of edges that leads into a node and comes from one that is left.
func leading(edges []api.Edge, left []string, to string) (api.Edge, bool) {
	for _, e := range edges {
		if e.From != e.To && e.To == to && slices.Contains(left, e.From) {
			return e, true
		}
	}
	return api.Edge{}, false
}

// toldLoop is 21.4: the loop, and the edge that is taken away.
func toldLoop(edges []api.Edge, left []string) ([]string, api.Edge) {
	v := []string{left[0]}
	for {
		e, _ := leading(edges, left, v[len(v)-1])
		v = append(v, e.From)
		j := len(v) - 1
		if i := slices.Index(v, v[j]); i < j {
			var loop []string
			for k := j; k > i; k-- {
				loop = append(loop, v[k])
			}
			return loop, api.Edge{From: v[i+1], To: v[i]}
		}
	}
}

// toldSort is 21.3 and 21.5.
func toldSort(edges []api.Edge) ([]string, [][]string) {
	var names []string
	var circles [][]string
	left := toldNodes(edges)
	edges = slices.Clone(edges)
	for len(left) > 0 {
		i := slices.IndexFunc(left, func(name string) bool {
			_, some := leading(edges, left, name)
			return !some
		})
		if i >= 0 {
			names = append(names, left[i])
			left = slices.Delete(slices.Clone(left), i, i+1)
			continue
		}
		loop, cut := toldLoop(edges, left)
		circles = append(circles, loop)
		edges = slices.DeleteFunc(edges, func(e api.Edge) bool { return e == cut })
	}
	return names, circles
}

// toldRun is 21.6 and 21.7.
func toldRun(fs *vfs.FS, list []string) api.Result {
	var all []api.Node
	for _, n := range list {
		code := api.OK
		data := ""
		if n == "ar.tmp~" {
			code = api.ErrReserved
		} else {
			var err error
			data, err = fs.ReadFile(n)
			var f *api.FileError
			if errors.As(err, &f) {
				code = f.Err
			}
		}
		if code != api.OK {
			return api.Result{Msg: "lorder: " + text.Quote(n) + ": " + code.Error() + "\n", Code: code}
		}
		all = append(all, api.Node{Name: n, Defines: syms.Globals(data), Needs: syms.Needs(data)})
	}
	names, circles := toldSort(toldEdges(all))
	var r api.Result
	for _, name := range names {
		r.Out += text.Quote(name) + "\n"
	}
	for _, loop := range circles {
		var quoted []string
		for _, name := range loop {
			quoted = append(quoted, text.Quote(name))
		}
		r.Msg += "tsort: input contains a loop: " + strings.Join(quoted, " ") + "\n"
		r.Code = api.ErrLoop
	}
	return r
}
