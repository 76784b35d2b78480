package nm_test

// The chapter's own words once more, as plainly as they can be written, to hold the package against.

import (
	"errors"
	"fmt"
	"strings"
	"unicode/utf8"

	"shelf/api"
	"shelf/arc"
	"shelf/elf"
	"shelf/index"
	"shelf/syms"
	"shelf/text"
	"shelf/vfs"
)

// toldLetter is 20.1.
func toldLetter(s api.Symbol, secs []api.Section) byte {
	small := func(capital string) byte {
		if s.Bind == 0 {
			return strings.ToLower(capital)[0]
		}
		return capital[0]
	}
	if s.Section == 0 && s.Bind == 2 {
		return 'w'
	}
	if s.Section == 0 {
		return 'U'
	}
	if s.Section == 65522 {
		return 'C'
	}
	if s.Bind == 2 && s.Type == 1 {
		return 'V'
	}
	if s.Bind == 2 {
		return 'W'
	}
	if s.Section == 65521 {
		return small("A")
	}
	if s.Section < 0 || s.Section >= len(secs) {
		return '?'
	}
	x := secs[s.Section]
	if x.Type == 8 {
		return small("B")
	}
	if x.Flags/4%2 == 1 {
		return small("T")
	}
	if x.Flags%2 == 1 {
		return small("D")
	}
	if x.Flags/2%2 == 1 {
		return small("R")
	}
	return small("N")
}

// toldRows is 20.2.
func toldRows(b string) ([]api.Row, api.Errno) {
	secs, code := elf.Sections(b)
	if code != api.OK {
		return nil, code
	}
	all, code := syms.Table(b)
	if code != api.OK {
		return nil, code
	}
	var rows []api.Row
	for _, s := range all {
		if s.Name == "" || s.Type == 3 || s.Type == 4 {
			continue
		}
		rows = append(rows, api.Row{Symbol: s, Letter: toldLetter(s, secs)})
	}
	return rows, api.OK
}

// ahead: does a go ahead of b by 20.3?
func ahead(a, b api.Row, o api.NmOpts) bool {
	if o.Number {
		if (a.Section == 0) != (b.Section == 0) {
			return a.Section == 0
		}
		if a.Value != b.Value {
			return a.Value < b.Value
		}
		return a.Name < b.Name
	}
	if a.Name != b.Name {
		return a.Name < b.Name
	}
	return a.Value < b.Value
}

// toldSort is 20.3: each row that is not left out goes behind all that are not behind it by the rule.
func toldSort(rows []api.Row, o api.NmOpts) []api.Row {
	var list []api.Row
	for _, r := range rows {
		if o.Global && r.Bind == 0 {
			continue
		}
		if o.Undef && r.Letter != 'U' && r.Letter != 'w' {
			continue
		}
		at := len(list)
		for !o.Plain && at > 0 && ahead(r, list[at-1], o) {
			at--
		}
		list = append(list[:at:at], append([]api.Row{r}, list[at:]...)...)
	}
	if o.Reverse {
		var turned []api.Row
		for i := len(list) - 1; i >= 0; i-- {
			turned = append(turned, list[i])
		}
		return turned
	}
	return list
}

// toldText is 20.4.
func toldText(rows []api.Row, class int, prefix string) string {
	columns := 16
	if class == 32 {
		columns = 8
	}
	out := ""
	for _, r := range rows {
		value := fmt.Sprintf("%0*x", columns, r.Value)
		if r.Section == 0 {
			value = fmt.Sprintf("%*s", columns, "")
		}
		out += prefix + value + " " + string([]byte{r.Letter}) + " " + text.Quote(r.Name) + "\n"
	}
	return out
}

// stop is a refusal: the name and the code.
type stop struct {
	name string
	code api.Errno
}

// deny ends a run if the code is not OK.
func deny(name string, code api.Errno) {
	if code != api.OK {
		panic(stop{name, code})
	}
}

// codeOf is the Errno of an error.
func codeOf(err error) api.Errno {
	if err == nil {
		return api.OK
	}
	var f *api.FileError
	if !errors.As(err, &f) {
		panic(err)
	}
	return f.Err
}

// toldRun is 20.5 to 20.9.
func toldRun(f *vfs.FS, args []string) (answer api.Result) {
	defer func() {
		switch x := recover().(type) {
		case nil:
		case stop:
			answer.Msg += "nm: "
			if x.name != "" {
				answer.Msg += text.Quote(x.name) + ": "
			}
			answer.Msg += x.code.Error() + "\n"
			answer.Code = x.code
		default:
			panic(x)
		}
	}()
	var o api.NmOpts
	for len(args) > 0 && strings.HasPrefix(args[0], "-") && len(args[0]) > 1 {
		toldOptions(args[0][1:], &o)
		args = args[1:]
	}
	if len(args) == 0 {
		panic(stop{"", api.ErrNoFile})
	}
	for _, name := range args {
		toldFile(f, name, len(args), o, &answer)
	}
	return answer
}

// toldOptions is what 20.5 says of one word.
func toldOptions(word string, o *api.NmOpts) {
	for word != "" {
		_, n := utf8.DecodeRuneInString(word)
		switch word[:n] {
		case "A":
			o.Prefix = true
		case "g":
			o.Global = true
		case "n":
			o.Number = true
		case "p":
			o.Plain = true
		case "r":
			o.Reverse = true
		case "s":
			o.Index = true
		case "u":
			o.Undef = true
		default:
			panic(stop{word[:n], api.ErrNmLetter})
		}
		word = word[n:]
	}
}

// toldFile is 20.6.
func toldFile(f *vfs.FS, name string, count int, o api.NmOpts, answer *api.Result) {
	if name == "ar.tmp~" {
		panic(stop{name, api.ErrReserved})
	}
	data, err := f.ReadFile(name)
	deny(name, codeOf(err))
	if count > 1 && !o.Prefix {
		answer.Out += "\n" + text.Quote(name) + ":\n"
	}
	if !strings.HasPrefix(data, "!<arch>\n") && !strings.HasPrefix(data, "!<thin>\n") {
		rows, code := toldRows(data)
		deny(name, code)
		prefix := ""
		if o.Prefix {
			prefix = text.Quote(name) + ":"
		}
		h, _ := elf.Header(data)
		answer.Out += toldText(toldSort(rows, o), h.Class, prefix)
		return
	}
	p, _, code := arc.Parse(data)
	deny(name, code)
	if o.Index && p.Form != api.NoIndex {
		toldIndex(name, p, answer)
	}
	for _, m := range p.Members {
		toldMember(f, name, p.Kind, m, o, answer)
	}
}

// toldIndex is 20.7.
func toldIndex(name string, p api.Parsed, answer *api.Result) {
	entries, code := index.Decode(p.Form, p.Index)
	deny(name, code)
	out := "Archive index:\n"
	for _, x := range entries {
		found := false
		for i, at := range p.At {
			if at == x.At {
				out += text.Quote(x.Name) + " in " + text.Quote(p.Members[i].Name) + "\n"
				found = true
			}
		}
		if !found {
			panic(stop{name, api.ErrIndex})
		}
	}
	answer.Out += out + "\n"
}

// toldMember is what 20.8 says of one member, and 20.9.
func toldMember(f *vfs.FS, file string, kind api.Kind, m api.Member, o api.NmOpts, answer *api.Result) {
	data := m.Data
	if kind == api.Thin && m.Size != 0 {
		if m.Name == "ar.tmp~" {
			panic(stop{m.Name, api.ErrReserved})
		}
		bytes, err := f.ReadFile(m.Name)
		code := codeOf(err)
		if code == api.ErrMissing || code == api.ErrFileName {
			panic(stop{m.Name, api.ErrLost})
		}
		deny(m.Name, code)
		if len(bytes) != m.Size {
			panic(stop{m.Name, api.ErrStale})
		}
		data = bytes
	}
	if !o.Prefix {
		answer.Out += "\n" + text.Quote(m.Name) + ":\n"
	}
	rows, code := toldRows(data)
	if code != api.OK {
		answer.Msg += "nm: " + text.Quote(file) + "(" + text.Quote(m.Name) + "): " + code.Error() + "\n"
		if answer.Code == api.OK {
			answer.Code = code
		}
		return
	}
	prefix := ""
	if o.Prefix {
		prefix = text.Quote(file) + ":" + text.Quote(m.Name) + ":"
	}
	h, _ := elf.Header(data)
	answer.Out += toldText(toldSort(rows, o), h.Class, prefix)
}
