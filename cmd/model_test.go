package cmd_test

import (
	"slices"
	"strings"
	"testing"

	"shelf/api"
	"shelf/cmd"
)

const seven = "dmpqrtx"

// modelParts parts the words behind ar into options, letters and operands; none: there is no key word.
func modelParts(args []string) (options, letters, operands []string, none bool) {
	rest := args[1:]
	for len(rest) > 0 && len(rest[0]) >= 2 && rest[0][:2] == "--" {
		options, rest = append(options, rest[0]), rest[1:]
	}
	if len(rest) == 0 {
		return options, nil, nil, true
	}
	first := rest[0]
	if len(first) > 0 && first[0] == '-' {
		first = first[1:]
	}
	letters = strings.Split(first, "")
	for rest = rest[1:]; len(rest) > 0 && len(rest[0]) >= 2 && rest[0][0] == '-'; rest = rest[1:] {
		letters = append(letters, strings.Split(rest[0][1:], "")...)
	}
	return options, letters, rest, false
}

// anyOf tells whether one of the letters is among these.
func anyOf(letters []string, these string) bool {
	return slices.ContainsFunc(letters, func(l string) bool { return strings.Contains(these, l) })
}

func modelLetters(letters []string) (string, api.Errno) {
	for i, l := range letters {
		switch {
		case !strings.Contains("dmpqrtxsabicDoSTuvl", l):
			return l, api.ErrLetter
		case strings.Contains(seven, l) && anyOf(letters[:i], seven):
			return l, api.ErrTwoOps
		case strings.Contains("abi", l) && anyOf(letters[:i], "abi"):
			return l, api.ErrMix
		}
	}
	if !anyOf(letters, seven+"s") {
		return "", api.ErrNoOp
	}
	return "", api.OK
}

// firstOf is the first of the letters that is among these.
func firstOf(letters []string, these string) string {
	for _, l := range letters {
		if strings.Contains(these, l) {
			return l
		}
	}
	return ""
}

// modelOp is the operation of letters with one.
func modelOp(letters []string) string {
	if op := firstOf(letters, seven); op != "" {
		return op
	}
	return "s"
}

// modelClash is what 15.6 refuses of a line whose letters were taken.
func modelClash(args []string) (string, api.Errno) {
	options, letters, _, _ := modelParts(args)
	op, format := modelOp(letters), ""
	for _, o := range options {
		if o == "--thin" {
			letters = append(letters, "T")
		} else {
			format = o
		}
	}
	has := func(l string) bool { return slices.Contains(letters, l) }
	switch {
	case anyOf(letters, "abi") && op != "m" && op != "r":
		return firstOf(letters, "abi"), api.ErrMix
	case has("u") && (op != "r" || has("D")):
		return "u", api.ErrMix
	case has("T") && (op != "r" && op != "q" || format == "--format=bsd"):
		return "T", api.ErrMix
	case has("o") && op != "x":
		return "o", api.ErrMix
	case has("c") && op != "r" && op != "q":
		return "c", api.ErrMix
	case has("S") && op != "d" && op != "m" && op != "q" && op != "r":
		return "S", api.ErrMix
	}
	return "", api.OK
}

// modelDecode is Decode by the chapter's words, each part looked for by itself.
func modelDecode(args []string) (api.Command, string, api.Errno) {
	none := api.Command{}
	switch {
	case len(args) == 0:
		return none, "", api.ErrProgram
	case args[0] == "ranlib":
		return modelRanlib(args)
	case args[0] != "ar":
		return none, args[0], api.ErrProgram
	}
	options, letters, operands, noKey := modelParts(args)
	for _, o := range options {
		if o != "--thin" && o != "--format=gnu" && o != "--format=bsd" {
			return none, o, api.ErrOption
		}
	}
	if noKey {
		return none, "", api.ErrNoOp
	}
	if l, e := modelLetters(letters); e != api.OK {
		return none, l, e
	}
	if l, e := modelClash(args); e != api.OK {
		return none, l, e
	}
	return modelOperands(options, letters, operands)
}

func modelOperands(options, letters, operands []string) (api.Command, string, api.Errno) {
	has := func(l string) bool { return slices.Contains(letters, l) }
	c := api.Command{Op: modelOp(letters)[0], Verbose: has("v"), Update: has("u"), Quiet: has("c"), Det: has("D"), Dates: has("o"), Bare: has("S")}
	c.Thin = has("T") || slices.Contains(options, "--thin")
	for _, o := range options {
		if o == "--format=bsd" {
			c.Kind = api.BSD
		} else if o == "--format=gnu" {
			c.Kind = api.GNU
		}
	}
	if anyOf(letters, "abi") {
		c.Pos.Where = api.Before
		if has("a") {
			c.Pos.Where = api.After
		}
		if len(operands) == 0 {
			return api.Command{}, "", api.ErrNoAnchor
		}
		c.Pos.Anchor, operands = operands[0], operands[1:]
	}
	if len(operands) == 0 {
		return api.Command{}, "", api.ErrNoArchive
	}
	c.Archive, c.Names = operands[0], operands[1:]
	return c, "", api.OK
}

func modelRanlib(args []string) (api.Command, string, api.Errno) {
	c := api.Command{Prog: api.Ranlib, Op: 's'}
	for i, word := range args[1:] {
		if len(word) < 2 || word[0] != '-' {
			c.Archive, c.Names = word, args[i+2:]
			return c, "", api.OK
		}
		for _, l := range strings.Split(word[1:], "") {
			if l != "D" {
				return api.Command{}, l, api.ErrLetter
			}
		}
		c.Det = true
	}
	return api.Command{}, "", api.ErrNoArchive
}

// wantModel wants what the model says of a line; a line that is taken is wanted back from its command.
func wantModel(t *testing.T, args []string) {
	t.Helper()
	want, culprit, e := modelDecode(args)
	if e == api.OK {
		wantTaken(t, args, want)
	} else {
		wantRefused(t, args, culprit, e)
	}
}

// everyWord calls look with each list of n of these.
func everyWord(of []string, n int, look func([]string)) {
	picked := make([]string, n)
	var pick func(int)
	pick = func(i int) {
		if i == n {
			look(picked)
			return
		}
		for _, x := range of {
			picked[i] = x
			pick(i + 1)
		}
	}
	pick(0)
}

// 15.4 to 15.6: every key word of up to four letters.
func TestEveryKeyWord(t *testing.T) {
	letters := strings.Split("dmpqrtxsabicDoSTuvl", "")
	letters = append(letters, "-", "\xff")
	for n := range 5 {
		everyWord(letters, n, func(picked []string) {
			wantModel(t, list("ar", strings.Join(picked, ""), "x.o", "lib.a"))
		})
	}
}

// 15.2 to 15.9: every line of up to five words out of some.
func TestEveryLine(t *testing.T) {
	some := list("", "-", "--", "--thin", "--format=bsd", "--format=gnu", "r", "-q", "-D", "sa", "-b", "t", "lib.a")
	for n := range 5 {
		everyWord(some, n, func(picked []string) {
			wantModel(t, append(list("ar"), picked...))
			wantModel(t, append(list("ranlib"), picked...))
			wantModel(t, picked)
		})
	}
	everyWord(list("", "--thin", "-ra", "-v", "x", "--format=bsd"), 5, func(picked []string) {
		wantModel(t, append(list("ar"), picked...))
	})
}

// dice is a row of numbers that looks thrown and is the same each time.
type dice uint64

func (d *dice) below(n int) int {
	*d = *d*6364136223846793005 + 1442695040888963407
	return int(uint64(*d) >> 33 % uint64(n))
}

// 15.1 to 15.12: many lines of words of many letters.
func TestManyLines(t *testing.T) {
	d := dice(15)
	letters := strings.Split("dmpqrtxsabicDoSTuvl", "")
	letters = append(letters, "-", "é", "\xff", "\xe2", "\x82", "\ufffd", "z", "D", "v", "s", "l")
	for range 200000 {
		args := list("ar")
		if d.below(8) == 0 {
			args[0] = "ranlib"
		}
		for range d.below(3) {
			args = append(args, []string{"--thin", "--format=bsd", "--format=gnu", "--x"}[min(d.below(12), d.below(4))])
		}
		for range d.below(6) {
			word := strings.Repeat("-", d.below(2))
			for range d.below(5) {
				word += letters[min(d.below(len(letters)), d.below(len(letters)))]
			}
			args = append(args, word)
		}
		wantModel(t, args)
	}
}

// modelLine is Line by the chapter's words.
func modelLine(c api.Command) ([]string, api.Errno) {
	dash := func(s string) bool { return strings.HasPrefix(s, "-") && s != "-" }
	op := string(rune(c.Op))
	is := func(these string) bool { return strings.Contains(these, op) }
	placed := c.Pos.Where != api.AtEnd
	if c.Prog != 0 && c.Prog != 1 {
		return nil, api.ErrProgram
	}
	if !is("dmpqrstx") || c.Prog == 1 && c.Op != 's' {
		return nil, api.ErrNoOp
	}
	if c.Kind != 0 && c.Kind != 2 || c.Pos.Where < 0 || c.Pos.Where > 2 {
		return nil, api.ErrMix
	}
	if c.Prog == 1 && (c.Verbose || c.Update || c.Quiet || c.Dates || c.Bare || c.Thin || c.Kind == api.BSD || placed) {
		return nil, api.ErrMix
	}
	if placed && !is("mr") || c.Update && (c.Op != 'r' || c.Det) || c.Thin && (!is("rq") || c.Kind == api.BSD) ||
		c.Dates && c.Op != 'x' || c.Quiet && !is("rq") || c.Bare && !is("dmqr") {
		return nil, api.ErrMix
	}
	if !placed && c.Pos.Anchor != "" || placed && dash(c.Pos.Anchor) {
		return nil, api.ErrNoAnchor
	}
	if !placed && dash(c.Archive) {
		return nil, api.ErrNoArchive
	}
	return modelWords(c, op), api.OK
}

func modelWords(c api.Command, key string) []string {
	line := list("ar")
	if c.Prog == 1 {
		line[0] = "ranlib"
		if c.Det {
			line = append(line, "-D")
		}
		return append(append(line, c.Archive), c.Names...)
	}
	if c.Kind == api.BSD {
		line = append(line, "--format=bsd")
	}
	key += []string{"", "a", "b"}[c.Pos.Where]
	for i, set := range []bool{c.Quiet, c.Det, c.Dates, c.Bare, c.Thin, c.Update, c.Verbose} {
		if set {
			key += "cDoSTuv"[i : i+1]
		}
	}
	line = append(line, key)
	if c.Pos.Where != api.AtEnd {
		line = append(line, c.Pos.Anchor)
	}
	return append(append(line, c.Archive), c.Names...)
}

// wantModelLine wants what the model says of a command.
func wantModelLine(t *testing.T, c api.Command) {
	t.Helper()
	line, e := modelLine(c)
	if e == api.OK {
		wantLine(t, c, line...)
	} else {
		wantNoLine(t, c, e)
	}
}

// everyCommand calls look with commands of each program and operation, with each set of flags, kind and position, and operands of all sorts.
func everyCommand(look func(api.Command)) {
	for _, op := range []byte("dmpqrstxz\x00") {
		for set := range 128 {
			c := api.Command{Op: op, Verbose: set&1 != 0, Update: set&2 != 0, Quiet: set&4 != 0, Det: set&8 != 0, Dates: set&16 != 0, Bare: set&32 != 0, Thin: set&64 != 0}
			for _, c.Prog = range []int{api.Ar, api.Ranlib, 2} {
				for _, c.Kind = range []api.Kind{api.GNU, api.Thin, api.BSD} {
					for _, c.Pos.Where = range []int{api.AtEnd, api.After, api.Before, 3} {
						everyOperand(c, look)
					}
				}
			}
		}
	}
}

func everyOperand(c api.Command, look func(api.Command)) {
	for i, anchor := range []string{"", "x", "-", "-x"} {
		for k, archive := range []string{"", "l", "-", "-l"} {
			c.Pos.Anchor, c.Archive = anchor, archive
			c.Names = [][]string{nil, {"-v"}, {"", "-", "--thin"}}[(i+k)%3]
			look(c)
		}
	}
}

// 15.10 to 15.12: every command.
func TestEveryCommand(t *testing.T) {
	everyCommand(func(c api.Command) { wantModelLine(t, c) })
}

// 15.12: a line that a command gives is one that the command's line gives again.
func TestLineOfLine(t *testing.T) {
	for _, l := range lines() {
		c, _, e := cmd.Decode(l)
		if e != api.OK {
			continue
		}
		first, _ := cmd.Line(c)
		again, _, _ := cmd.Decode(first)
		second, e := cmd.Line(again)
		if e != api.OK || !slices.Equal(first, second) {
			t.Errorf("%q, then %q, %d", first, second, e)
		}
	}
}
