package mri_test

import (
	"fmt"
	"maps"
	"slices"
	"strings"
	"testing"

	"shelf/api"
	"shelf/mri"
	"shelf/vfs"
)

const (
	temp     = api.TempName
	capacity = 20000
)

// env, own and saved have no number in common where a test could take one for the other.
var (
	env   = api.Env{Now: 100, UID: 7, GID: 8}
	own   = api.Meta{Date: 5, UID: 1, GID: 2, Mode: 0o640}
	saved = api.Meta{Date: 100, UID: 7, GID: 8, Mode: 0o644}
)

// file is a file of a volume: its bytes and its Meta.
type file struct {
	data string
	meta api.Meta
}

// files are the files of a volume by their names.
type files map[string]file

// put is a file as tests lay it out.
func put(data string) file { return file{data, own} }

// made is an archive as a SAVE leaves it.
func made(data string) file { return file{data, saved} }

// unpacked is a file as an EXTRACT leaves it that has the mode of the tests' members.
func unpacked(data string) file {
	return file{data, api.Meta{Date: env.Now, UID: env.UID, GID: env.GID, Mode: own.Mode}}
}

// but is the files with one more, or with another one of this name.
func (list files) but(name string, f file) files {
	out := maps.Clone(list)
	out[name] = f
	return out
}

// without is the files but the one of this name.
func (list files) without(name string) files {
	out := maps.Clone(list)
	delete(out, name)
	return out
}

func must(t *testing.T, err error) {
	t.Helper()
	if err != nil {
		t.Fatal(err)
	}
}

// durable makes a volume with just these files, all durable; the count is 0.
func durable(t *testing.T, list files) *vfs.FS { return roomFor(t, capacity, list) }

// roomFor is such a volume of this capacity.
func roomFor(t *testing.T, capacity int, list files) *vfs.FS {
	t.Helper()
	f := vfs.New(capacity)
	for name, x := range list {
		h, err := f.Create(name, x.meta)
		must(t, err)
		_, err = h.Write(x.data)
		must(t, err)
		must(t, h.Sync())
		must(t, h.Close())
	}
	f.Restart(api.MaxFiles*2, nil)
	return f
}

// look tells all the files of a volume with the power on. It takes the plan away.
func look(t *testing.T, f *vfs.FS) files {
	t.Helper()
	f.Arm(nil)
	names, err := f.List()
	must(t, err)
	out := files{}
	for _, name := range names {
		info, err := f.Stat(name)
		must(t, err)
		data, err := f.ReadFile(name)
		must(t, err)
		out[name] = file{data, info.Meta}
	}
	return out
}

// wantFiles: are just these files there?
func wantFiles(t *testing.T, what string, f *vfs.FS, want files) {
	t.Helper()
	got := look(t, f)
	if maps.Equal(got, want) {
		return
	}
	for _, name := range slices.Sorted(maps.Keys(got)) {
		if x, ok := want[name]; !ok || x != got[name] {
			t.Errorf("%s: %q is\n     %q %v, want (%v)\n     %q %v", what, name, got[name].data, got[name].meta, ok, x.data, x.meta)
		}
	}
	for _, name := range slices.Sorted(maps.Keys(want)) {
		if _, ok := got[name]; !ok {
			t.Errorf("%s: %q is missing", what, name)
		}
	}
}

func wantCalls(t *testing.T, what string, f *vfs.FS, n int) {
	t.Helper()
	if f.Calls() != n {
		t.Errorf("%s: %d calls, want %d", what, f.Calls(), n)
	}
}

func wantResult(t *testing.T, what string, got, want api.Result) {
	t.Helper()
	if got != want {
		t.Errorf("%s:\n got %q, %q, %d\nwant %q, %q, %d", what, got.Out, got.Msg, got.Code, want.Out, want.Msg, want.Code)
	}
}

// lines is a text of these lines, each with its newline.
func lines(list ...string) string {
	var b strings.Builder
	for _, l := range list {
		b.WriteString(l + "\n")
	}
	return b.String()
}

// told is an answer without a message.
func told(list ...string) api.Result { return api.Result{Out: lines(list...)} }

// no is a refusal behind what was told.
func no(name string, code api.Errno, list ...string) api.Result {
	if name != "" {
		name += ": "
	}
	return api.Result{Out: lines(list...), Msg: "ar: " + name + code.Error() + "\n", Code: code}
}

// script is the lines that stand between slashes.
func script(bars string) string {
	var list []string
	for _, l := range strings.Split(bars, "/") {
		list = append(list, strings.TrimSpace(l))
	}
	return lines(list...)
}

// run is Run of a script in the file s, which is put there ahead.
func run(t *testing.T, list files, text string, e api.Env) (*vfs.FS, api.Result) {
	t.Helper()
	f := durable(t, list.but("s", put(text)))
	return f, mri.Run(f, "s", e)
}

// wantRun: the script, its lines parted by slashes, answers this on a new volume, makes so many calls beside the reading of itself, and leaves these files beside itself.
func wantRun(t *testing.T, list files, bars string, want api.Result, calls int, left files) {
	t.Helper()
	f, got := run(t, list, script(bars), env)
	wantResult(t, bars, got, want)
	wantCalls(t, bars, f, calls+1)
	wantFiles(t, bars, f, left.but("s", put(script(bars))))
}

// wantStruck: the calls of the script beside the reading of itself are as many as names, and each of them, struck by a fault of each kind by itself, is refused with this name. (A name with ! behind it: with ErrUnsure.) What is told by then is not looked at.
func wantStruck(t *testing.T, list files, bars string, names ...string) {
	t.Helper()
	for k, name := range append([]string{"s"}, names...) {
		for _, kind := range kinds() {
			f := durable(t, list.but("s", put(script(bars))))
			f.Arm([]api.Fault{{At: k + 1, Kind: kind}})
			got := mri.Run(f, "s", env)
			got.Out = ""
			code := struck(kind)
			name, unsure := strings.CutSuffix(name, "!")
			if unsure {
				code = api.ErrUnsure
			}
			wantResult(t, fmt.Sprintf("%s, fault %d at call %d", bars, kind, k+1), got, no(name, code))
		}
	}
	f, _ := run(t, list, script(bars), env)
	wantCalls(t, bars, f, len(names)+1)
}

// replacing are the names of commit's calls for an archive of n bytes, as wantStruck takes them.
func replacing(name string, n int) []string {
	calls := 5 + (n+api.Chunk-1)/api.Chunk
	return append(times(name, calls-1), name+"!")
}

// kinds are the kinds of faults.
func kinds() []int { return []int{api.FaultIO, api.FaultShort, api.FaultDown} }

// struck is the Errno of a call that a fault of this kind strikes.
func struck(kind int) api.Errno {
	if kind == api.FaultDown {
		return api.ErrDown
	}
	return api.ErrIO
}

// times is a name n times.
func times(name string, n int) []string { return slices.Repeat([]string{name}, n) }
