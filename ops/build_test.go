package ops_test

import (
	"math"
	"slices"
	"strconv"
	"strings"
	"testing"

	"shelf/api"
	"shelf/ops"
)

// list makes members of words such as a, a.5 (with a date), a:x (with data) and a.5:x; - is the empty name. All other fields hang on these, so that a member that is not carried over whole shows; no Size goes with its Data.
func list(words string) []api.Member {
	var members []api.Member
	for _, word := range strings.Fields(words) {
		word, data, _ := strings.Cut(word, ":")
		name, text, _ := strings.Cut(word, ".")
		date, _ := strconv.Atoi(text)
		members = append(members, member(name, date, data))
	}
	return members
}

func member(name string, date int, data string) api.Member {
	sum := 0
	for _, c := range []byte(name + data) {
		sum = 31*sum + int(c)
	}
	return api.Member{Meta: api.Meta{Date: date, UID: 10 + sum, GID: -sum, Mode: 7 * sum}, Name: strings.TrimPrefix(name, "-"), Size: 1000 + sum, Data: data}
}

// names are words, - for the empty name.
func names(words string) []string {
	all := strings.Fields(words)
	for i, word := range all {
		all[i] = strings.TrimPrefix(word, "-")
	}
	return all
}

// told is a list of members in the words of list.
func told(members []api.Member) string {
	var words []string
	for _, m := range members {
		word := m.Name
		if word == "" {
			word = "-"
		}
		if m.Date != 0 {
			word += "." + strconv.Itoa(m.Date)
		}
		if m.Data != "" {
			word += ":" + m.Data
		}
		words = append(words, word)
	}
	return "[" + strings.Join(words, " ") + "]"
}

// done are events as words: what was done, then the name.
func done(events []api.Event) string {
	var words []string
	for _, v := range events {
		words = append(words, string(rune(v.What))+v.Name)
	}
	return strings.Join(words, " ")
}

func atEnd() api.Pos                  { return api.Pos{Where: api.AtEnd} }
func after(anchor string) api.Pos     { return api.Pos{Where: api.After, Anchor: anchor} }
func before(anchor string) api.Pos    { return api.Pos{Where: api.Before, Anchor: anchor} }
func nowhere(w int, a string) api.Pos { return api.Pos{Where: w, Anchor: a} }

// noWheres are numbers that are no position.
func noWheres() []int {
	return []int{3, 4, 5, 255, 256, 257, 258, 1 << 32, 1<<32 + 1, 1<<32 + 2, -1, -2, -3, math.MinInt, math.MinInt + 1, math.MinInt + 2, math.MaxInt}
}

func wantSelect(t *testing.T, in string, asked string, numbers []int, missing string) {
	t.Helper()
	n, m := ops.Select(list(in), names(asked))
	if !slices.Equal(n, numbers) || !slices.Equal(m, names(missing)) {
		t.Errorf("Select([%s], [%s]): %v, missing %q, want %v, missing [%s]", in, asked, n, m, numbers, missing)
	}
}

func wantDelete(t *testing.T, in, asked, out string) {
	t.Helper()
	l, name, e := ops.Delete(list(in), names(asked))
	if !slices.Equal(l, list(out)) || name != "" || e != api.OK {
		t.Errorf("Delete([%s], [%s]): %s, %q, %d, want [%s]", in, asked, told(l), name, e, out)
	}
}

func wantNoDelete(t *testing.T, in, asked, culprit string) {
	t.Helper()
	l, name, e := ops.Delete(list(in), names(asked))
	if l != nil || name != culprit || e != api.ErrNoMember {
		t.Errorf("Delete([%s], [%s]): %s, %q, %d, want %q, ErrNoMember", in, asked, told(l), name, e, culprit)
	}
}

func wantMove(t *testing.T, in, asked string, pos api.Pos, out string) {
	t.Helper()
	l, name, e := ops.Move(list(in), names(asked), pos)
	if !slices.Equal(l, list(out)) || name != "" || e != api.OK {
		t.Errorf("Move([%s], [%s], %v): %s, %q, %d, want [%s]", in, asked, pos, told(l), name, e, out)
	}
}

func wantNoMove(t *testing.T, in, asked string, pos api.Pos, culprit string, code api.Errno) {
	t.Helper()
	l, name, e := ops.Move(list(in), names(asked), pos)
	if l != nil || name != culprit || e != code {
		t.Errorf("Move([%s], [%s], %v): %s, %q, %d, want %q, %d", in, asked, pos, told(l), name, e, culprit, code)
	}
}

func wantInsert(t *testing.T, olds, in string, pos api.Pos, update bool, out, events string) {
	t.Helper()
	l, v, e := ops.Insert(list(olds), list(in), pos, update)
	if !slices.Equal(l, list(out)) || done(v) != events || e != api.OK {
		t.Errorf("Insert([%s], [%s], %v, %v): %s, %s, %d, want [%s], %s", olds, in, pos, update, told(l), done(v), e, out, events)
	}
}

func wantNoInsert(t *testing.T, olds, in string, pos api.Pos, update bool) {
	t.Helper()
	l, v, e := ops.Insert(list(olds), list(in), pos, update)
	if l != nil || v != nil || e != api.ErrAnchor {
		t.Errorf("Insert([%s], [%s], %v, %v): %s, %s, %d, want ErrAnchor", olds, in, pos, update, told(l), done(v), e)
	}
}

func wantAppend(t *testing.T, olds, in, out string) {
	t.Helper()
	if l := ops.Append(list(olds), list(in)); !slices.Equal(l, list(out)) {
		t.Errorf("Append([%s], [%s]): %s, want [%s]", olds, in, told(l), out)
	}
}
