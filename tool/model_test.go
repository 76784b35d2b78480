package tool_test

import (
	"fmt"
	"math/rand"
	"strings"
	"testing"

	"shelf/api"
	"shelf/cmd"
	"shelf/pack"
	"shelf/tool"
	"shelf/vfs"
)

// dice are what chance decides, the same for the same seed.
type dice struct{ *rand.Rand }

// one is one of these.
func one[T any](d dice, list ...T) T { return list[d.Intn(len(list))] }

// often is true n times of ten.
func (d dice) often(n int) bool { return d.Intn(10) < n }

// name is a file's name, or what could be given as one.
func (d dice) name() string {
	if d.often(9) {
		return one(d, "a", "b", "c.o", "d.o", "x")
	}
	return one(d, "a b", "lib.a", "thin.a", temp, "", "x/y", "gone", "@a", "n\x00", strings.Repeat("n", 64), strings.Repeat("n", 65))
}

// data are a file's bytes.
func (d dice) data() string {
	switch d.Intn(6) {
	case 0:
		return object(one(d, "f", "g"), one(d, "h", "long_name"))
	case 1:
		return object("f")[:d.Intn(57)+250]
	case 2:
		return filled(d.Intn(1200))
	case 3:
		return one(d, "a b", "tv lib.a", "\"", "-D", "\\x", "")
	}
	return filled(d.Intn(5))
}

// meta are numbers, mostly such that an archive has room for them.
func (d dice) meta() api.Meta {
	m := api.Meta{Date: d.Intn(9), UID: d.Intn(3), GID: d.Intn(3), Mode: one(d, 0, 0o644, 0o755)}
	if d.Intn(60) == 0 {
		m.Date = one(d, -1, 999999999999, 1000000000000)
	}
	return m
}

// members are an archive's, some of them with the bytes of a file of their name.
func (d dice) members(list files, isThin bool) []api.Member {
	var members []api.Member
	for range d.Intn(5) {
		m := api.Member{Meta: d.meta(), Name: d.name(), Data: d.data()}
		if x, ok := list[m.Name]; ok && d.often(9) {
			m.Data = x.data
		}
		m.Size = len(m.Data)
		if isThin && d.Intn(8) == 0 {
			m.Size = d.Intn(3)
		}
		if d.often(9) && strings.ContainsAny(m.Name, "/\x00") || m.Name == "" {
			m.Name = "y"
		}
		members = append(members, m)
	}
	return members
}

// archive is an archive's bytes, or what was one.
func (d dice) archive(list files, kind api.Kind) string {
	b, e := pack.Build(kind, d.members(list, kind == api.Thin), d.Intn(9), api.Wide32, d.often(5))
	if e == api.OK && d.Intn(15) == 0 {
		b = b[:d.Intn(len(b))]
	}
	return b
}

// chanceFiles are a volume's files.
func (d dice) chanceFiles() files {
	list := files{}
	for _, name := range []string{"a", "b", "c.o", "d.o", "x", "a b", temp} {
		if d.often(9) {
			list[name] = file{d.data(), d.meta()}
		}
	}
	for _, name := range []string{"lib.a", "other.a", "thin.a"} {
		if d.often(9) {
			kind := one(d, api.GNU, api.BSD)
			if name == "thin.a" {
				kind = api.Thin
			}
			list[name] = file{d.archive(list, kind), d.meta()}
		}
	}
	return list
}

// command is a command with any fields.
func (d dice) command() api.Command {
	c := api.Command{
		Op: one[byte](d, 'd', 'm', 'p', 'q', 'r', 's', 't', 'x', 'r', 'q'), Verbose: d.often(5), Quiet: d.often(3), Det: d.often(3), Bare: d.often(2), Dates: d.often(2), Update: d.often(2),
		Kind: one(d, api.GNU, api.BSD, api.Thin, 9), Archive: one(d, "lib.a", "other.a", "thin.a"),
	}
	switch d.Intn(20) {
	case 0:
		c.Op = byte(d.Intn(256))
	case 1:
		c.Archive = d.name()
	case 2, 3:
		c.Archive = "new.a"
	case 4, 5, 6:
		c.Pos = api.Pos{Where: one(d, api.After, api.Before, 7), Anchor: d.name()}
	case 7:
		c.Prog = one(d, api.Ranlib, 5)
	}
	c.Thin = c.Archive == "thin.a" != d.often(1)
	for range d.Intn(4) {
		c.Names = append(c.Names, d.name())
	}
	if c.Prog == api.Ranlib && d.often(8) {
		c.Names = []string{"lib.a", "other.a", "thin.a"}[:d.Intn(4)]
	}
	return c
}

// meant is the command with what no line can mean taken from it.
func (d dice) meant() api.Command {
	c := d.command()
	if c.Prog == api.Ranlib {
		return api.Command{Prog: c.Prog, Op: 's', Det: c.Det, Archive: c.Archive, Names: c.Names}
	}
	puts := c.Op == 'r' || c.Op == 'q'
	changes := puts || c.Op == 'd' || c.Op == 'm'
	c.Update = c.Update && c.Op == 'r' && !c.Det
	c.Thin = c.Thin && puts
	c.Dates = c.Dates && c.Op == 'x'
	c.Quiet = c.Quiet && puts
	c.Bare = c.Bare && changes
	if c.Kind != api.BSD || c.Thin {
		c.Kind = api.GNU
	}
	if c.Op != 'm' && c.Op != 'r' || c.Pos.Where == 7 {
		c.Pos = api.Pos{}
	}
	return c
}

// line is a line: the command's, or words.
func (d dice) line() []string {
	c := d.meant()
	words, e := cmd.Line(c)
	if e != api.OK {
		words = append([]string{one(d, "ar", "ranlib", "@a"), one(d, "t", "r", "x", "q", "zz"), c.Archive}, c.Names...)
	}
	if d.often(2) {
		words[d.Intn(len(words))] = "@" + d.name()
	}
	return words
}

// plan are faults.
func (d dice) plan() []api.Fault {
	var plan []api.Fault
	for range max(0, d.Intn(5)-2) {
		plan = append(plan, api.Fault{At: d.Intn(16), Kind: d.Intn(5), N: d.Intn(600) - 5})
	}
	return plan
}

// environment is an environment; now and then its numbers are such that nothing can be built.
func (d dice) environment() api.Env {
	return api.Env{Now: one(d, 0, 7, 100, 100, 100, -1), UID: d.Intn(9), GID: d.Intn(9), Wide: one(d, 0, 0, 0, 0, 1, 200, 400, api.Wide32, -1)}
}

// scene is a volume with little room or much, some of its files not durable.
func (d dice) scene(t *testing.T) (*vfs.FS, *vfs.FS) {
	list := d.chanceFiles()
	used := 0
	for _, x := range list {
		used += len(x.data)
	}
	room := used + one(d, 20000, 20000, 20000, 900, 300, 0)
	first, second := roomFor(t, room, list), roomFor(t, room, list)
	if d.often(2) {
		for _, f := range []*vfs.FS{first, second} {
			f.Remove("b")
			f.Rename("a", "x")
		}
	}
	plan := d.plan()
	first.Arm(plan)
	second.Arm(plan)
	return first, second
}

// All promises at once: chance volumes, commands and plans, against the chapter's own words; now and behind a restart.
func TestAgainstModel(t *testing.T) {
	codes := map[api.Errno]int{}
	for seed := range int64(40000) {
		d := dice{rand.New(rand.NewSource(seed))}
		f, twin := d.scene(t)
		var got, want api.Result
		var what string
		e := d.environment()
		if d.often(5) {
			c := d.command()
			what = fmt.Sprintf("seed %d: %q %+v, %+v", seed, c.Op, c, e)
			got, want = tool.Exec(f, c, e), toldExec(twin, c, e)
		} else {
			line := d.line()
			what = fmt.Sprintf("seed %d: %q, %+v", seed, line, e)
			got, want = tool.Run(f, line, e), toldRun(twin, line, e)
		}
		codes[got.Code]++
		wantResult(t, what, got, want)
		wantCalls(t, what, f, twin.Calls())
		if f.Down() != twin.Down() {
			t.Errorf("%s: Down() = %v", what, f.Down())
		}
		if f.Down() || d.often(5) {
			dirOps, cuts := d.Intn(5), []int{d.Intn(9), d.Intn(600)}
			f.Restart(dirOps, cuts)
			twin.Restart(dirOps, cuts)
		}
		wantFiles(t, what, f, look(t, twin))
		if t.Failed() {
			return
		}
	}
	wantCodes(t, codes)
}

// wantCodes: has chance met every refusal of this layer, and those that come through it most?
func wantCodes(t *testing.T, codes map[api.Errno]int) {
	t.Helper()
	for _, code := range []api.Errno{
		api.OK, api.ErrWide, api.ErrRange, api.ErrQuote, api.ErrEscape, api.ErrMissing, api.ErrFull, api.ErrFileName, api.ErrIO, api.ErrDown, api.ErrMagic, api.ErrFar, api.ErrNoMember, api.ErrAnchor, api.ErrNoOp, api.ErrUnsure,
		api.ErrReserved, api.ErrKind, api.ErrThin, api.ErrLost, api.ErrStale,
	} {
		if codes[code] < 5 {
			t.Errorf("chance met %d (%v) only %d times", code, code, codes[code])
		}
	}
	t.Log(codes)
}
