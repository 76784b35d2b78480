package ops_test

import (
	"slices"
	"testing"

	"shelf/api"
	"shelf/ops"
)

// answer is all that a call answers, whichever it is.
type answer struct {
	members []api.Member
	events  []api.Event
	numbers []int
	missing []string
	name    string
	code    api.Errno
}

func (a answer) same(b answer) bool {
	return slices.Equal(a.members, b.members) && slices.Equal(a.events, b.events) && slices.Equal(a.numbers, b.numbers) &&
		slices.Equal(a.missing, b.missing) && a.name == b.name && a.code == b.code
}

func (a answer) clone() answer {
	a.members, a.events = slices.Clone(a.members), slices.Clone(a.events)
	a.numbers, a.missing = slices.Clone(a.numbers), slices.Clone(a.missing)
	return a
}

// spoil overwrites a list and its spare room.
func spoil[T any](list []T, x T) {
	list = list[:cap(list)]
	for i := range list {
		list[i] = x
	}
}

func (a answer) spoil() {
	spoil(a.members, member("spoilt", -1, "spoilt"))
	spoil(a.events, api.Event{What: '?', Name: "spoilt"})
	spoil(a.numbers, -7)
	spoil(a.missing, "spoilt")
}

// call is one of the functions, with what it is given beside its lists.
type call func(list, in []api.Member, asked []string) answer

// calls are all functions, each with what leads it another way.
func calls() []call {
	all := []call{
		func(list, _ []api.Member, asked []string) (a answer) {
			a.numbers, a.missing = ops.Select(list, asked)
			return a
		},
		func(list, _ []api.Member, asked []string) (a answer) {
			a.members, a.name, a.code = ops.Delete(list, asked)
			return a
		},
		func(list, in []api.Member, _ []string) answer { return answer{members: ops.Append(list, in)} },
		func(list, _ []api.Member, _ []string) answer { return answer{members: ops.Normal(list)} },
	}
	for _, pos := range []api.Pos{atEnd(), after("a"), before("a"), after("c"), before("c"), after("x"), nowhere(3, "a")} {
		all = append(all, func(list, _ []api.Member, asked []string) (a answer) {
			a.members, a.name, a.code = ops.Move(list, asked, pos)
			return a
		})
		for _, update := range []bool{false, true} {
			all = append(all, func(list, in []api.Member, _ []string) (a answer) {
				a.members, a.events, a.code = ops.Insert(list, in, pos, update)
				return a
			})
		}
	}
	return all
}

// given are lists with spare room in which something stands: the first n of each are handed in.
type given struct {
	list, in []api.Member
	asked    []string
}

func (g given) clone() given {
	return given{slices.Clone(g.list), slices.Clone(g.in), slices.Clone(g.asked)}
}

func (g given) same(h given) bool {
	return slices.Equal(g.list, h.list) && slices.Equal(g.in, h.in) && slices.Equal(g.asked, h.asked)
}

// room keeps a list's bounds apart from what lies behind them.
type room struct{ list, in, asked int }

func (g given) call(c call, n room) answer { return c(g.list[:n.list], g.in[:n.in], g.asked[:n.asked]) }

func allGiven() (given, []room) {
	g := given{list("a.2:1 b.2:2 a.2:3 c.2:4 x:spare y:spare z:spare w:spare"), list("b.3:n x.1 a.1:m x.2:l p:spare q:spare r:spare"), names("c a a x a spare spare")}
	var rooms []room
	for _, l := range []int{0, 1, 4} {
		for _, i := range []int{0, 1, 4} {
			for _, a := range []int{0, 1, 2, 3, 4, 5} {
				rooms = append(rooms, room{l, i, a})
			}
		}
	}
	return g, rooms
}

// R4: lists that are handed in are as they were, with what lies behind them, whether the call is carried out or refused.
func TestGivenAsTheyWere(t *testing.T) {
	was, rooms := allGiven()
	for i, c := range calls() {
		for _, n := range rooms {
			g := was.clone()
			g.call(c, n)
			if !g.same(was) {
				t.Errorf("call %d, %v leaves %s, %s, %q", i, n, told(g.list), told(g.in), g.asked)
			}
		}
	}
}

// R4: an answer is new memory: to overwrite it, with its spare room, changes neither what was handed in nor another answer.
func TestAnswersOfTheirOwn(t *testing.T) {
	was, rooms := allGiven()
	for i, c := range calls() {
		for _, n := range rooms {
			g := was.clone()
			first, second := g.call(c, n), g.call(c, n)
			want := second.clone()
			first.spoil()
			if !g.same(was) {
				t.Errorf("call %d, %v: the answer shares memory with what was handed in", i, n)
			}
			if !second.same(want) {
				t.Errorf("call %d, %v: two answers share memory", i, n)
			}
			if third := g.call(c, n); !third.same(want) {
				t.Errorf("call %d, %v: another answer than before", i, n)
			}
		}
	}
}

// R4: what was handed in is not kept: to overwrite it changes no answer.
func TestGivenNotKept(t *testing.T) {
	was, rooms := allGiven()
	for i, c := range calls() {
		for _, n := range rooms {
			g := was.clone()
			a := g.call(c, n)
			want := a.clone()
			spoil(g.list, member("spoilt", -1, "spoilt"))
			spoil(g.in, member("spoilt", -1, "spoilt"))
			spoil(g.asked, "spoilt")
			if !a.same(want) {
				t.Errorf("call %d, %v: the answer shares memory with what was handed in", i, n)
			}
		}
	}
}

// R4: one list that is handed in twice is as it was, too.
func TestOneListTwice(t *testing.T) {
	g := list("a.1:1 b.2:2 a.3:3")
	was := slices.Clone(g)
	l, v, e := ops.Insert(g, g, after("a"), false)
	if !slices.Equal(l, list("a.3:3 b.2:2 a.3:3")) || done(v) != "ra rb ra" || e != api.OK {
		t.Errorf("%s, %s, %d", told(l), done(v), e)
	}
	l, v, e = ops.Insert(g, g[1:], atEnd(), true)
	if !slices.Equal(l, list("a.3:3 b.2:2 a.3:3")) || done(v) != "ub ra" || e != api.OK {
		t.Errorf("%s, %s, %d", told(l), done(v), e)
	}
	ops.Append(g[:1], g[1:])
	if !slices.Equal(g, was) {
		t.Errorf("%s", told(g))
	}
}
