package salvage_test

import (
	"fmt"
	"maps"
	"slices"
	"testing"

	"shelf/api"
	"shelf/salvage"
	"shelf/vfs"
)

const temp = api.TempName

// env, own and saved have no number in common where a test could take one for the other.
var (
	env   = api.Env{Now: 100, UID: 7, GID: 8}
	own   = api.Meta{Date: 5, UID: 1, GID: 2, Mode: 0o640}
	saved = api.Meta{Date: 100, UID: 7, GID: 8, Mode: 0o644}
)

func sameParsed(a, b api.Parsed) bool {
	return a.Kind == b.Kind && a.Form == b.Form && a.Index == b.Index && a.Stamp == b.Stamp &&
		slices.Equal(a.Members, b.Members) && slices.Equal(a.At, b.At)
}

// short tells an archive in few words.
func short(p api.Parsed) string {
	s := fmt.Sprintf("kind %d, form %d, index %.20q, stamp %d, %d members at %d places", p.Kind, p.Form, p.Index, p.Stamp, len(p.Members), len(p.At))
	for i := range min(len(p.Members), len(p.At), 4) {
		s += fmt.Sprintf("; %d %.60q", p.At[i], fmt.Sprint(p.Members[i]))
	}
	return s
}

// wantRead: does Read answer this?
func wantRead(t *testing.T, b string, p api.Parsed, damages []api.Damage) {
	t.Helper()
	got, told := salvage.Read(b)
	if !sameParsed(got, p) || !slices.Equal(told, damages) {
		t.Errorf("Read(%.400q):\n got %s, %v\nwant %s, %v", b, short(got), told, short(p), damages)
	}
}

// file is a file of a volume: its bytes and its Meta.
type file struct {
	data string
	meta api.Meta
}

// files are the files of a volume by their names.
type files map[string]file

// put is a file as tests lay it out.
func put(data string) file { return file{data, own} }

// made is an archive as Run leaves it.
func made(data string) file { return file{data, saved} }

// but is the files with one more, or with another one of this name.
func (list files) but(name string, f file) files {
	out := maps.Clone(list)
	out[name] = f
	return out
}

// without is the files but the one of this name.
func (list files) without(name string) files {
	out := maps.Clone(list)
	delete(out, name)
	return out
}

func must(t *testing.T, err error) {
	t.Helper()
	if err != nil {
		t.Fatal(err)
	}
}

// durable makes a volume with just these files, all durable; the count is 0.
func durable(t *testing.T, list files) *vfs.FS { return roomFor(t, 1<<20, list) }

// roomFor is such a volume of this capacity.
func roomFor(t *testing.T, capacity int, list files) *vfs.FS {
	t.Helper()
	f := vfs.New(capacity)
	for _, name := range slices.Sorted(maps.Keys(list)) {
		w, err := f.Create(name, list[name].meta)
		must(t, err)
		_, err = w.Write(list[name].data)
		must(t, err)
		must(t, w.Sync())
		must(t, w.Close())
	}
	f.Restart(2*api.MaxFiles, nil)
	return f
}

// look tells all the files of a volume with the power on. It takes the plan away.
func look(t *testing.T, f *vfs.FS) files {
	t.Helper()
	f.Arm(nil)
	names, err := f.List()
	must(t, err)
	out := files{}
	for _, name := range names {
		info, err := f.Stat(name)
		must(t, err)
		data, err := f.ReadFile(name)
		must(t, err)
		out[name] = file{data, info.Meta}
	}
	return out
}

func wantFiles(t *testing.T, what string, f *vfs.FS, want files) {
	t.Helper()
	if got := look(t, f); !maps.Equal(got, want) {
		t.Errorf("%s: the files are %.600q, want %.600q", what, fmt.Sprint(got), fmt.Sprint(want))
	}
}

func wantCalls(t *testing.T, what string, f *vfs.FS, n int) {
	t.Helper()
	if f.Calls() != n {
		t.Errorf("%s: %d calls, want %d", what, f.Calls(), n)
	}
}

func wantResult(t *testing.T, what string, got, want api.Result) {
	t.Helper()
	if got != want {
		t.Errorf("%s:\n got %q, %q, %d\nwant %q, %q, %d", what, got.Out, got.Msg, got.Code, want.Out, want.Msg, want.Code)
	}
}

// no is a refusal at a name, as it is quoted.
func no(name string, code api.Errno) api.Result {
	return api.Result{Msg: "salvage: " + name + ": " + code.Error() + "\n", Code: code}
}

// telling is the answer of a Run that tells these damages.
func telling(list ...api.Damage) api.Result {
	var r api.Result
	for _, d := range list {
		r.Out += fmt.Sprintf("damage at %d, %d bytes: %s\n", d.At, d.Len, d.Code)
		r.Code = api.ErrDamage
	}
	return r
}

// wantRun: on a new volume with these files, all durable, does Run answer this by so many calls, and leave these files?
func wantRun(t *testing.T, before files, from, to string, env api.Env, want api.Result, calls int, behind files) {
	t.Helper()
	what := fmt.Sprintf("Run(%q, %q, %v)", from, to, env)
	f := durable(t, before)
	wantResult(t, what, salvage.Run(f, from, to, env), want)
	wantCalls(t, what, f, calls)
	wantFiles(t, what, f, behind)
}

// pieces is how many calls it takes to write so many bytes.
func pieces(n int) int { return (n + api.Chunk - 1) / api.Chunk }

// kinds are the kinds of faults.
func kinds() []int { return []int{api.FaultIO, api.FaultShort, api.FaultDown} }

// struck is the Errno of a call that a fault of this kind strikes.
func struck(kind int) api.Errno {
	if kind == api.FaultDown {
		return api.ErrDown
	}
	return api.ErrIO
}
