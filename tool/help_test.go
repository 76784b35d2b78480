package tool_test

import (
	"fmt"
	"maps"
	"slices"
	"strings"
	"testing"

	"shelf/api"
	"shelf/cmd"
	"shelf/tool"
	"shelf/vfs"
)

const (
	temp     = api.TempName
	capacity = 20000
)

// env, own and written have no number in common where a test could take one for the other.
var (
	env     = api.Env{Now: 100, UID: 7, GID: 8}
	own     = api.Meta{Date: 5, UID: 1, GID: 2, Mode: 0o640}
	written = api.Meta{Date: 100, UID: 7, GID: 8, Mode: 0o644}
)

// file is a file of a volume: its bytes and its Meta.
type file struct {
	data string
	meta api.Meta
}

// files are the files of a volume by their names.
type files map[string]file

// put is a file as tests lay it out.
func put(data string) file { return file{data, own} }

// made is an archive as a command leaves it.
func made(data string) file { return file{data, written} }

// but is the files with one more, or with another one of this name.
func (list files) but(name string, f file) files {
	out := maps.Clone(list)
	out[name] = f
	return out
}

// without is the files but the one of this name.
func (list files) without(name string) files {
	out := maps.Clone(list)
	delete(out, name)
	return out
}

func must(t *testing.T, err error) {
	t.Helper()
	if err != nil {
		t.Fatal(err)
	}
}

// durable makes a volume with just these files, all durable; the count is 0.
func durable(t *testing.T, list files) *vfs.FS { return roomFor(t, capacity, list) }

// roomFor is such a volume of this capacity.
func roomFor(t *testing.T, capacity int, list files) *vfs.FS {
	t.Helper()
	f := vfs.New(capacity)
	for name, x := range list {
		h, err := f.Create(name, x.meta)
		must(t, err)
		_, err = h.Write(x.data)
		must(t, err)
		must(t, h.Sync())
		must(t, h.Close())
	}
	f.Restart(api.MaxFiles*2, nil)
	return f
}

// look tells all the files of a volume with the power on. It takes the plan away.
func look(t *testing.T, f *vfs.FS) files {
	t.Helper()
	f.Arm(nil)
	names, err := f.List()
	must(t, err)
	out := files{}
	for _, name := range names {
		info, err := f.Stat(name)
		must(t, err)
		data, err := f.ReadFile(name)
		must(t, err)
		out[name] = file{data, info.Meta}
	}
	return out
}

// wantFiles: are just these files there?
func wantFiles(t *testing.T, what string, f *vfs.FS, want files) {
	t.Helper()
	got := look(t, f)
	if maps.Equal(got, want) {
		return
	}
	for _, name := range slices.Sorted(maps.Keys(got)) {
		if x, ok := want[name]; !ok || x != got[name] {
			t.Errorf("%s: %q is\n     %q %v, want (%v)\n     %q %v", what, name, got[name].data, got[name].meta, ok, x.data, x.meta)
		}
	}
	for _, name := range slices.Sorted(maps.Keys(want)) {
		if _, ok := got[name]; !ok {
			t.Errorf("%s: %q is missing", what, name)
		}
	}
}

func wantCalls(t *testing.T, what string, f *vfs.FS, n int) {
	t.Helper()
	if f.Calls() != n {
		t.Errorf("%s: %d calls, want %d", what, f.Calls(), n)
	}
}

func wantResult(t *testing.T, what string, got, want api.Result) {
	t.Helper()
	if got != want {
		t.Errorf("%s:\n got %q, %q, %d\nwant %q, %q, %d", what, got.Out, got.Msg, got.Code, want.Out, want.Msg, want.Code)
	}
}

// args are the words of a line between blanks.
func args(line string) []string { return strings.Fields(line) }

// no is a refusal of ar.
func no(name string, code api.Errno) api.Result { return refused("ar", name, code) }

// refused is a refusal in the words that show has for it.
func refused(prog, name string, code api.Errno) api.Result {
	if name != "" {
		name += ": "
	}
	return api.Result{Msg: prog + ": " + name + code.Error() + "\n", Code: code}
}

// out is an answer without a message.
func out(lines ...string) api.Result {
	var b strings.Builder
	for _, l := range lines {
		b.WriteString(l + "\n")
	}
	return api.Result{Out: b.String()}
}

// wantRun: the line answers this on a new volume, makes so many calls, and leaves these files.
func wantRun(t *testing.T, list files, line string, want api.Result, calls int, left files) {
	t.Helper()
	f := durable(t, list)
	wantResult(t, line, tool.Run(f, args(line), env), want)
	wantCalls(t, line, f, calls)
	wantFiles(t, line, f, left)
}

// wantExec is wantRun of a command.
func wantExec(t *testing.T, list files, c api.Command, want api.Result, calls int, left files) {
	t.Helper()
	what := fmt.Sprintf("%q %+v", c.Op, c)
	f := durable(t, list)
	wantResult(t, what, tool.Exec(f, c, env), want)
	wantCalls(t, what, f, calls)
	wantFiles(t, what, f, left)
}

// wantStruck: the line's calls are as many as names, and each of them, struck by a fault of each kind by itself, is refused with this name. (A name with ! behind it: with ErrUnsure.)
func wantStruck(t *testing.T, list files, line string, names ...string) {
	t.Helper()
	for k, name := range names {
		for _, kind := range kinds() {
			f := durable(t, list)
			f.Arm([]api.Fault{{At: k + 1, Kind: kind}})
			got := tool.Run(f, args(line), env)
			got.Out = ""
			code := struck(kind)
			name, unsure := strings.CutSuffix(name, "!")
			if unsure {
				code = api.ErrUnsure
			}
			what := fmt.Sprintf("%s, fault %d at call %d", line, kind, k+1)
			wantResult(t, what, got, refused(args(line)[0], name, code))
		}
	}
	f := durable(t, list)
	tool.Run(f, args(line), env)
	wantCalls(t, line, f, len(names))
}

// replacing are the names of commit's calls for an archive of n bytes, as wantStruck takes them.
func replacing(name string, n int) []string {
	calls := 5 + (n+api.Chunk-1)/api.Chunk
	return append(times(name, calls-1), name+"!")
}

// kinds are the kinds of faults.
func kinds() []int { return []int{api.FaultIO, api.FaultShort, api.FaultDown} }

// struck is the Errno of a call that a fault of this kind strikes.
func struck(kind int) api.Errno {
	if kind == api.FaultDown {
		return api.ErrDown
	}
	return api.ErrIO
}

// times is a name n times.
func times(name string, n int) []string { return slices.Repeat([]string{name}, n) }

// exec is Exec in the tests' environment.
func exec(f *vfs.FS, c api.Command) api.Result { return tool.Exec(f, c, env) }

// decode is the command of a line.
func decode(t *testing.T, line string) api.Command {
	t.Helper()
	c, culprit, e := cmd.Decode(args(line))
	if e != api.OK {
		t.Fatalf("%s: %q, %d", line, culprit, e)
	}
	return c
}
