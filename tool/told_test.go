package tool_test

import (
	"errors"
	"slices"

	"shelf/api"
	"shelf/arc"
	"shelf/cmd"
	"shelf/commit"
	"shelf/ops"
	"shelf/pack"
	"shelf/show"
	"shelf/text"
	"shelf/vfs"
)

// stop is how the model ends a command that is refused: by a panic that toldExec catches.
type stop struct {
	name string
	code api.Errno
}

// check ends the command with this name if the error is one.
func check(name string, err error) {
	if f := (*api.FileError)(nil); errors.As(err, &f) {
		panic(stop{name, f.Err})
	}
}

// deny ends the command with this name if the code is no OK.
func deny(name string, code api.Errno) {
	if code != api.OK {
		panic(stop{name, code})
	}
}

// toldExpand is 17.1, word by word.
func toldExpand(f *vfs.FS, args []string) ([]string, string, api.Errno) {
	words := []string{}
	for i, word := range args {
		if i == 0 || len(word) < 2 || word[0] != '@' || word == "@ar.tmp~" {
			words = append(words, word)
			continue
		}
		data, err := f.ReadFile(word[1:])
		if errors.Is(err, api.ErrMissing) || errors.Is(err, api.ErrFileName) {
			words = append(words, word)
			continue
		}
		if x := (*api.FileError)(nil); errors.As(err, &x) {
			return nil, word[1:], x.Err
		}
		list, _, code := text.Words(data)
		if code != api.OK {
			return nil, word[1:], code
		}
		words = append(words, list...)
	}
	return words, "", api.OK
}

// toldRun is 17.2.
func toldRun(f *vfs.FS, args []string, env api.Env) api.Result {
	prog := api.Ar
	if len(args) > 0 && args[0] == "ranlib" {
		prog = api.Ranlib
	}
	words, name, code := toldExpand(f, args)
	if code != api.OK {
		return api.Result{Msg: show.Message(prog, name, code), Code: code}
	}
	c, culprit, code := cmd.Decode(words)
	if code != api.OK {
		return api.Result{Msg: show.Message(prog, culprit, code), Code: code}
	}
	return toldExec(f, c, env)
}

// toldExec is 17.3 to 17.14, in the chapter's own words.
func toldExec(f *vfs.FS, c api.Command, env api.Env) (answer api.Result) {
	defer func() {
		if x := recover(); x != nil {
			no := x.(stop)
			answer.Msg, answer.Code = show.Message(c.Prog, no.name, no.code), no.code
		}
	}()
	toldNames(c)
	if c.Prog == api.Ranlib {
		for _, name := range append([]string{c.Archive}, c.Names...) {
			toldOne(f, api.Command{Prog: api.Ranlib, Op: 's', Det: c.Det, Archive: name}, env, &answer)
		}
		return answer
	}
	toldOne(f, c, env, &answer)
	return answer
}

// toldNames is 17.3.
func toldNames(c api.Command) {
	if !slices.Contains([]byte{'d', 'm', 'p', 'q', 'r', 's', 't', 'x'}, c.Op) {
		panic(stop{"", api.ErrNoOp})
	}
	names := []string{c.Archive}
	if c.Prog == api.Ranlib || c.Op == 'r' || c.Op == 'q' {
		names = append(names, c.Names...)
	}
	for _, name := range names {
		if name == "ar.tmp~" {
			panic(stop{name, api.ErrReserved})
		}
		if len(name) < 1 || len(name) > 64 || slices.Contains([]byte(name), '/') || slices.Contains([]byte(name), 0) {
			panic(stop{name, api.ErrFileName})
		}
	}
}

// toldOne is 17.5 to 17.14 of one archive.
func toldOne(f *vfs.FS, c api.Command, env api.Env, answer *api.Result) {
	data, there, err := commit.Load(f, c.Archive)
	check(c.Archive, err)
	var kind api.Kind
	var list []api.Member
	puts := c.Op == 'r' || c.Op == 'q'
	switch {
	case there:
		p, _, code := arc.Parse(data)
		deny(c.Archive, code)
		kind, list = p.Kind, p.Members
		if puts && (kind == api.Thin && !c.Thin || kind != api.Thin && c.Thin) {
			panic(stop{c.Archive, api.ErrKind})
		}
		if c.Op == 'x' && kind == api.Thin {
			panic(stop{c.Archive, api.ErrThin})
		}
	case puts && c.Thin:
		kind = api.Thin
	case puts && c.Kind == api.BSD:
		kind = api.BSD
	case !puts:
		panic(stop{c.Archive, api.ErrMissing})
	}
	if c.Op == 't' || c.Op == 'p' || c.Op == 'x' {
		toldLook(f, c, env, kind, list, answer)
		return
	}
	list, events := toldEquation(f, c, list)
	if kind == api.Thin && !c.Bare {
		toldFiles(f, list)
	}
	stamp, wide := env.Now, env.Wide
	if c.Det {
		list, stamp = ops.Normal(list), 0
	}
	if wide == 0 {
		wide = 1 << 32
	}
	b, code := pack.Build(kind, list, stamp, wide, c.Bare)
	deny(c.Archive, code)
	check(c.Archive, commit.Replace(f, c.Archive, b, api.Meta{Date: env.Now, UID: env.UID, GID: env.GID, Mode: 420}))
	if c.Verbose {
		answer.Out = show.Events(events)
	}
	if !there && !c.Quiet {
		answer.Msg = "ar: creating " + text.Quote(c.Archive) + "\n"
	}
}

// toldEquation is 17.6 and 17.7.
func toldEquation(f *vfs.FS, c api.Command, list []api.Member) ([]api.Member, []api.Event) {
	var in []api.Member
	var events []api.Event
	for _, name := range c.Names {
		if c.Op == 'r' || c.Op == 'q' {
			info, err := f.Stat(name)
			check(name, err)
			data, err := f.ReadFile(name)
			check(name, err)
			in = append(in, api.Member{Meta: info.Meta, Name: name, Size: len(data), Data: data})
		}
		events = append(events, api.Event{What: c.Op, Name: name})
	}
	var name string
	var code api.Errno
	switch c.Op {
	case 'd':
		list, name, code = ops.Delete(list, c.Names)
	case 'm':
		list, name, code = ops.Move(list, c.Names, c.Pos)
	case 'r':
		list, events, code = ops.Insert(list, in, c.Pos, c.Update)
		name = c.Pos.Anchor
	case 'q':
		list = ops.Append(list, in)
	case 's':
		events = nil
	}
	deny(name, code)
	return list, events
}

// toldFiles is 17.8.
func toldFiles(f *vfs.FS, list []api.Member) {
	for i, m := range list {
		if m.Size == 0 || len(m.Data) > 0 {
			continue
		}
		if m.Name == "ar.tmp~" {
			panic(stop{m.Name, api.ErrReserved})
		}
		data, err := f.ReadFile(m.Name)
		if errors.Is(err, api.ErrMissing) || errors.Is(err, api.ErrFileName) {
			panic(stop{m.Name, api.ErrLost})
		}
		check(m.Name, err)
		if len(data) != m.Size {
			panic(stop{m.Name, api.ErrStale})
		}
		list[i].Data = data
	}
}

// toldLook is 17.11 to 17.14.
func toldLook(f *vfs.FS, c api.Command, env api.Env, kind api.Kind, list []api.Member, answer *api.Result) {
	those, missing := list, []string(nil)
	if len(c.Names) > 0 {
		var numbers []int
		numbers, missing = ops.Select(list, c.Names)
		those = nil
		for _, n := range numbers {
			those = append(those, list[n])
		}
	}
	switch c.Op {
	case 't':
		answer.Out = show.List(those, c.Verbose)
	case 'p':
		if kind == api.Thin {
			toldFiles(f, those)
		}
		answer.Out = show.Print(those, c.Verbose)
	case 'x':
		toldUnpack(f, c, env, those, answer)
	}
	for _, name := range missing {
		answer.Msg += show.Message(c.Prog, name, api.ErrNoMember)
		answer.Code = api.ErrNoMember
	}
}

// toldUnpack is 17.13.
func toldUnpack(f *vfs.FS, c api.Command, env api.Env, those []api.Member, answer *api.Result) {
	for _, m := range those {
		if m.Name == "ar.tmp~" || m.Name == c.Archive {
			panic(stop{m.Name, api.ErrReserved})
		}
		date := env.Now
		if c.Dates {
			date = m.Date
		}
		h, err := f.Create(m.Name, api.Meta{Date: date, UID: env.UID, GID: env.GID, Mode: m.Mode})
		check(m.Name, err)
		for at := 0; at < len(m.Data); at += 512 {
			_, err := h.Write(m.Data[at:min(at+512, len(m.Data))])
			check(m.Name, err)
		}
		check(m.Name, h.Sync())
		h.Close()
		if c.Verbose {
			answer.Out += show.Events([]api.Event{{What: 'x', Name: m.Name}})
		}
	}
	if len(those) > 0 {
		check(c.Archive, f.SyncDir())
	}
}
