package mri_test

import (
	"errors"
	"regexp"
	"strings"

	"shelf/api"
	"shelf/arc"
	"shelf/commit"
	"shelf/ops"
	"shelf/pack"
	"shelf/show"
	"shelf/vfs"
)

// A line's remark, its tokens; and what may stand behind each word, a word being told as w.
var (
	remark = regexp.MustCompile(`(?s)[*;].*`)
	tokens = regexp.MustCompile(`[()]|[^ \t\r,()]+`)
	shapes = map[string]*regexp.Regexp{
		"CREATE": regexp.MustCompile(`^w$`), "OPEN": regexp.MustCompile(`^w$`),
		"ADDMOD": regexp.MustCompile(`^w+$`), "DELETE": regexp.MustCompile(`^w+$`), "REPLACE": regexp.MustCompile(`^w+$`), "EXTRACT": regexp.MustCompile(`^w+$`),
		"ADDLIB": regexp.MustCompile(`^w(\(w*\))?$`), "DIRECTORY": regexp.MustCompile(`^w(\(w*\))?$`),
		"LIST": regexp.MustCompile(`^$`), "VERBOSE": regexp.MustCompile(`^$`), "CLEAR": regexp.MustCompile(`^$`), "SAVE": regexp.MustCompile(`^$`), "END": regexp.MustCompile(`^$`),
	}
)

// toldDecode is 19.1 to 19.5, in the chapter's own words.
func toldDecode(text string) ([]api.Mri, int, api.Errno) {
	all := strings.Split(text, "\n")
	if all[len(all)-1] == "" {
		all = all[:len(all)-1]
	}
	commands := []api.Mri{}
	for i := 0; i < len(all); {
		number := i + 1
		var line []string
		for more := true; more && i < len(all); i++ {
			own := tokens.FindAllString(remark.ReplaceAllString(all[i], ""), -1)
			more = len(own) > 0 && own[len(own)-1] == "+"
			if more {
				own = own[:len(own)-1]
			}
			line = append(line, own...)
		}
		if len(line) == 0 {
			continue
		}
		c, e := toldCommand(line[0], line[1:])
		if e != api.OK {
			return nil, number, e
		}
		commands = append(commands, c)
	}
	return commands, 0, api.OK
}

// toldCommand is 19.4.
func toldCommand(verb string, rest []string) (api.Mri, api.Errno) {
	upper := strings.Map(func(r rune) rune {
		if r >= 'a' && r <= 'z' {
			return r - 32
		}
		return r
	}, verb)
	shape := shapes[upper]
	if shape == nil {
		return api.Mri{}, api.ErrVerb
	}
	told, words := "", []string(nil)
	for _, x := range rest {
		if x == "(" || x == ")" {
			told += x
			continue
		}
		told += "w"
		words = append(words, x)
	}
	if !shape.MatchString(told) {
		return api.Mri{}, api.ErrList
	}
	c := api.Mri{Names: words}
	for _, w := range allWords() {
		if w.text == upper {
			c.Verb = w.verb
		}
	}
	switch upper {
	case "CREATE", "OPEN", "ADDLIB", "DIRECTORY":
		c.Name, c.Names = words[0], words[1:]
	}
	return c, api.OK
}

// stop is how the model ends a script: by a panic that toldRun catches.
type stop struct {
	name string
	code api.Errno
}

// check ends the script with this name if the error is one.
func check(name string, err error) {
	if f := (*api.FileError)(nil); errors.As(err, &f) {
		panic(stop{name, f.Err})
	}
}

// deny ends the script with this name if the code is no OK.
func deny(name string, code api.Errno) {
	if code != api.OK {
		panic(stop{name, code})
	}
}

// state is what 19.9 says is kept.
type state struct {
	isOpen  bool
	name    string
	kind    api.Kind
	list    []api.Member
	verbose bool
}

// toldRun is 19.8 to 19.17, in the chapter's own words.
func toldRun(f *vfs.FS, name string, env api.Env) (answer api.Result) {
	defer func() {
		if x := recover(); x != nil {
			no := x.(stop)
			answer.Msg, answer.Code = show.Message(api.Ar, no.name, no.code), no.code
		}
	}()
	if name == "ar.tmp~" {
		panic(stop{name, api.ErrReserved})
	}
	text, err := f.ReadFile(name)
	check(name, err)
	commands, _, code := toldDecode(text)
	deny(name, code)
	var st state
	for _, c := range commands {
		if c.Verb == api.MriEnd {
			return answer
		}
		toldVerb(f, c, env, &st, &answer)
	}
	return answer
}

// toldVerb is what 19.10 to 19.17 say of one command.
func toldVerb(f *vfs.FS, c api.Mri, env api.Env, st *state, answer *api.Result) {
	switch c.Verb {
	case api.MriCreate, api.MriOpen, api.MriDirectory, api.MriVerbose:
	default:
		if !st.isOpen {
			panic(stop{"", api.ErrNoOpen})
		}
	}
	tell := func(what byte, names ...string) {
		for _, name := range names {
			if st.verbose {
				answer.Out += show.Events([]api.Event{{What: what, Name: name}})
			}
		}
	}
	switch c.Verb {
	case api.MriCreate:
		toldNamed(c.Name)
		*st = state{true, c.Name, api.GNU, nil, st.verbose}
	case api.MriOpen:
		p := toldLoaded(f, c.Name, false)
		*st = state{true, c.Name, p.Kind, p.Members, st.verbose}
	case api.MriAddMod:
		st.list = ops.Append(st.list, toldFiles(f, c.Names))
		tell('q', c.Names...)
	case api.MriReplace:
		list, events, _ := ops.Insert(st.list, toldFiles(f, c.Names), api.Pos{}, false)
		st.list = list
		for _, v := range events {
			tell(v.What, v.Name)
		}
	case api.MriDelete:
		list, name, code := ops.Delete(st.list, c.Names)
		deny(name, code)
		st.list = list
		tell('d', c.Names...)
	case api.MriClear:
		st.list = nil
	case api.MriAddLib:
		taken := toldTaken(toldLoaded(f, c.Name, false).Members, c.Names)
		st.list = ops.Append(st.list, taken)
		for _, m := range taken {
			tell('q', m.Name)
		}
	case api.MriDirectory:
		answer.Out += show.List(toldTaken(toldLoaded(f, c.Name, true).Members, c.Names), st.verbose)
	case api.MriList:
		answer.Out += show.List(st.list, true)
	case api.MriVerbose:
		st.verbose = !st.verbose
	case api.MriExtract:
		for _, m := range toldTaken(st.list, c.Names) {
			toldUnpack(f, env, st.name, m)
			tell('x', m.Name)
		}
		check(st.name, f.SyncDir())
	case api.MriSave:
		toldSave(f, env, st)
	}
}

// toldNamed is 19.10's 'named'.
func toldNamed(name string) {
	if name == "ar.tmp~" {
		panic(stop{name, api.ErrReserved})
	}
	if len(name) < 1 || len(name) > 64 || strings.Contains(name, "/") || strings.Contains(name, "\x00") {
		panic(stop{name, api.ErrFileName})
	}
}

// toldLoaded is 19.10's 'named, then loaded', and the refusal of thin archives.
func toldLoaded(f *vfs.FS, name string, thinToo bool) api.Parsed {
	toldNamed(name)
	data, there, err := commit.Load(f, name)
	check(name, err)
	if !there {
		panic(stop{name, api.ErrMissing})
	}
	p, _, code := arc.Parse(data)
	deny(name, code)
	if p.Kind == api.Thin && !thinToo {
		panic(stop{name, api.ErrKind})
	}
	return p
}

// toldTaken is what 19.14 says is taken.
func toldTaken(list []api.Member, names []string) []api.Member {
	if len(names) == 0 {
		return list
	}
	numbers, missing := ops.Select(list, names)
	if len(missing) > 0 {
		panic(stop{missing[0], api.ErrNoMember})
	}
	var taken []api.Member
	for _, n := range numbers {
		taken = append(taken, list[n])
	}
	return taken
}

// toldFiles is 19.12's reading of files.
func toldFiles(f *vfs.FS, names []string) []api.Member {
	for _, name := range names {
		toldNamed(name)
	}
	var in []api.Member
	for _, name := range names {
		info, err := f.Stat(name)
		check(name, err)
		data, err := f.ReadFile(name)
		check(name, err)
		in = append(in, api.Member{Meta: info.Meta, Name: name, Size: len(data), Data: data})
	}
	return in
}

// toldUnpack is what 19.16 says of one member.
func toldUnpack(f *vfs.FS, env api.Env, archive string, m api.Member) {
	if m.Name == "ar.tmp~" || m.Name == archive {
		panic(stop{m.Name, api.ErrReserved})
	}
	h, err := f.Create(m.Name, api.Meta{Date: env.Now, UID: env.UID, GID: env.GID, Mode: m.Mode})
	check(m.Name, err)
	for at := 0; at < len(m.Data); at += 512 {
		_, err := h.Write(m.Data[at:min(at+512, len(m.Data))])
		check(m.Name, err)
	}
	check(m.Name, h.Sync())
	h.Close()
}

// toldSave is 19.17.
func toldSave(f *vfs.FS, env api.Env, st *state) {
	wide := env.Wide
	if wide == 0 {
		wide = 1 << 32
	}
	b, code := pack.Build(st.kind, st.list, env.Now, wide, false)
	deny(st.name, code)
	check(st.name, commit.Replace(f, st.name, b, api.Meta{Date: env.Now, UID: env.UID, GID: env.GID, Mode: 420}))
}
