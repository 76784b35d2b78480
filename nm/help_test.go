package nm_test

import (
	"fmt"
	"maps"
	"slices"
	"strings"
	"testing"

	"shelf/api"
	"shelf/nm"
	"shelf/vfs"
)

const temp = api.TempName

// files are the bytes of a volume's files by their names.
type files map[string]string

// but is the files with one more, or with another one of this name.
func (list files) but(name, data string) files {
	out := maps.Clone(list)
	out[name] = data
	return out
}

// without is the files but the one of this name.
func (list files) without(name string) files {
	out := maps.Clone(list)
	delete(out, name)
	return out
}

func must(t *testing.T, err error) {
	t.Helper()
	if err != nil {
		t.Fatal(err)
	}
}

// durable makes a volume with just these files, all durable; the count is 0.
func durable(t *testing.T, list files) *vfs.FS {
	t.Helper()
	f := unsettled(t, list, true)
	f.Restart(2*api.MaxFiles, nil)
	return f
}

// unsettled makes a volume with just these files, whose names are pending; their bytes are loose unless they are made durable.
func unsettled(t *testing.T, list files, sync bool) *vfs.FS {
	t.Helper()
	f := vfs.New(1 << 20)
	for _, name := range slices.Sorted(maps.Keys(list)) {
		h, err := f.Create(name, api.Meta{Date: 5, UID: 1, GID: 2, Mode: 0o644})
		must(t, err)
		_, err = h.Write(list[name])
		must(t, err)
		if sync {
			must(t, h.Sync())
		}
		must(t, h.Close())
	}
	f.Arm(nil)
	return f
}

// look tells all the files of a volume with the power on. It takes the plan away.
func look(t *testing.T, f *vfs.FS) files {
	t.Helper()
	f.Arm(nil)
	names, err := f.List()
	must(t, err)
	out := files{}
	for _, name := range names {
		data, err := f.ReadFile(name)
		must(t, err)
		out[name] = data
	}
	return out
}

// wantFiles: are just these files there?
func wantFiles(t *testing.T, what string, f *vfs.FS, want files) {
	t.Helper()
	if got := look(t, f); !maps.Equal(got, want) {
		t.Errorf("%s: the files are %q, want %q", what, got, want)
	}
}

func wantCalls(t *testing.T, what string, f *vfs.FS, n int) {
	t.Helper()
	if f.Calls() != n {
		t.Errorf("%s: %d calls, want %d", what, f.Calls(), n)
	}
}

func wantResult(t *testing.T, what string, got, want api.Result) {
	t.Helper()
	if got != want {
		t.Errorf("%s:\n got %q, %q, %d\nwant %q, %q, %d", what, got.Out, got.Msg, got.Code, want.Out, want.Msg, want.Code)
	}
}

func wantRows(t *testing.T, what string, got, want []api.Row) {
	t.Helper()
	if !slices.Equal(got, want) {
		t.Errorf("%s:\n got %v\nwant %v", what, got, want)
	}
}

// told is an answer without a message.
func told(out string) api.Result { return api.Result{Out: out} }

// no is a refusal behind what was told.
func no(name string, code api.Errno, out string) api.Result {
	if name != "" {
		name += ": "
	}
	return api.Result{Out: out, Msg: "nm: " + name + code.Error() + "\n", Code: code}
}

// said is an answer with lines that were said, whose first has this code.
func said(out string, code api.Errno, lines ...string) api.Result {
	r := api.Result{Out: out, Code: code}
	for _, l := range lines {
		r.Msg += "nm: " + l + "\n"
	}
	return r
}

// runOf is Run of words that are parted by blanks.
func runOf(f *vfs.FS, args string) api.Result { return nm.Run(f, strings.Fields(args)) }

// wantRun: on a new volume with these files the words, parted by blanks, answer this by so many calls, and no file is changed.
func wantRun(t *testing.T, list files, args string, want api.Result, calls int) {
	t.Helper()
	wantWords(t, list, strings.Fields(args), want, calls)
}

// wantWords is wantRun of any words.
func wantWords(t *testing.T, list files, args []string, want api.Result, calls int) {
	t.Helper()
	what := fmt.Sprintf("nm %q", args)
	f := durable(t, list)
	wantResult(t, what, nm.Run(f, args), want)
	wantCalls(t, what, f, calls)
	wantFiles(t, what, f, list)
}

// wantStruck: the words make as many calls as there are names, and each of them, struck by a fault of each kind, is refused with this name, behind what was told by then.
func wantStruck(t *testing.T, list files, args string, names []string, outs []string) {
	t.Helper()
	for k, name := range names {
		for _, kind := range kinds() {
			f := durable(t, list)
			f.Arm([]api.Fault{{At: k + 1, Kind: kind}})
			what := fmt.Sprintf("nm %s, fault %d at call %d", args, kind, k+1)
			wantResult(t, what, runOf(f, args), no(name, struck(kind), outs[k]))
			wantCalls(t, what, f, k+1)
		}
	}
	f := durable(t, list)
	runOf(f, args)
	wantCalls(t, args, f, len(names))
}

// kinds are the kinds of faults.
func kinds() []int { return []int{api.FaultIO, api.FaultShort, api.FaultDown} }

// struck is the Errno of a call that a fault of this kind strikes.
func struck(kind int) api.Errno {
	if kind == api.FaultDown {
		return api.ErrDown
	}
	return api.ErrIO
}
