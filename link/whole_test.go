package link_test

import (
	"fmt"
	"slices"
	"strings"
	"testing"

	"shelf/api"
	"shelf/link"
	"shelf/syms"
	"shelf/tool"
)

// made are a chance volume's files and archives, the latter by commands; and which files each archive has.
func (d dice) made(t *testing.T) (files, map[string][]string) {
	t.Helper()
	list := files{}
	for i := range 12 {
		list[fmt.Sprint(i, ".o")] = objectOf(some(d, 6, func() symbol {
			return symbol{fmt.Sprint("n", d.Intn(15)), one(d, 1, 1, 2), d.Intn(2)}
		})...)
	}
	f := volume(t, list)
	holds := map[string][]string{}
	for i := range 12 { // each file in one archive
		archive := one(d, "a.a", "b.a", "t.a")
		holds[archive] = append(holds[archive], fmt.Sprint(i, ".o"))
	}
	for _, archive := range words("a.a b.a t.a") {
		key, format, wide := one(d, "rc", "qc", "rcS"), "gnu", one(d, 0, 200)
		if archive == "t.a" {
			key = "rcT"
		} else if d.often(4) {
			format, wide = "bsd", 0
		}
		line := append([]string{"ar", "--format=" + format, key, archive}, holds[archive]...)
		want(t, tool.Run(f, line, api.Env{Wide: wide}))
	}
	want(t, tool.Run(f, words("ranlib b.a a.a"), api.Env{}))
	return look(t, f), holds
}

func want(t *testing.T, r api.Result) {
	t.Helper()
	if r.Code != api.OK {
		t.Fatal(r)
	}
}

// W12: a link over archives as commands left them: each member that is pulled in was wanted, none is pulled in twice, and nothing that stays undefined is defined by any member.
func TestLinkOfCommands(t *testing.T) {
	for seed := range 300 {
		d := newDice(seed)
		list, holds := d.made(t)
		archives := words("a.a b.a t.a")
		d.Shuffle(3, func(i, k int) { archives[i], archives[k] = archives[k], archives[i] })
		r := link.Run(volume(t, list), "n0", archives)
		what := fmt.Sprintf("W12: seed %d: Run(%q) = %q, %q, %d", seed, archives, r.Out, r.Msg, r.Code)
		wanted, undefined, told := []string{"n0"}, []string(nil), []string(nil)
		for line := range strings.Lines(r.Out) {
			line = strings.TrimSuffix(line, "\n")
			if name, ok := strings.CutPrefix(line, "undefined: "); ok {
				undefined = append(undefined, name)
				continue
			}
			if slices.Contains(told, line) {
				t.Errorf("%s: %s is told twice", what, line)
			}
			told = append(told, line)
			_, file, _ := strings.Cut(strings.TrimSuffix(line, ")"), "(")
			if !slices.ContainsFunc(syms.Globals(list[file]), func(name string) bool { return slices.Contains(wanted, name) }) {
				t.Errorf("%s: %s is pulled in for nothing", what, line)
			}
			wanted = append(wanted, syms.Needs(list[file])...)
		}
		for _, names := range holds {
			for _, file := range names {
				if slices.ContainsFunc(syms.Globals(list[file]), func(name string) bool { return slices.Contains(undefined, name) }) {
					t.Errorf("%s: %s defines what stays undefined", what, file)
				}
			}
		}
		if r.Msg != "" || (r.Code == api.OK) != (len(undefined) == 0) || r.Code != api.OK && r.Code != api.ErrNone {
			t.Error(what)
		}
		if t.Failed() {
			return
		}
	}
}
