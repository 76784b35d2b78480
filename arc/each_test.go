package arc_test

import (
	"iter"
	"slices"
	"testing"

	"shelf/api"
	"shelf/arc"
)

// taken is an archive of each kind that Parse takes, with special members and four ordinary ones.
func taken() []string {
	table := "a.o/\nseventeen.bytes.o/\n"
	return []string{
		regular + whole("/", "idx") + whole("//", table) + whole("/5", "xy") + whole("b/", "z") + whole("/0", "") + whole("c/", "\n\n\n"),
		regular + whole("/SYM64/", "") + whole("a/", "x") + whole("b/", "y") + whole("a/", "xy") + h("d/", 0),
		regular + whole("//", table) + whole("/0", "x") + whole("/0", "") + whole("/1", "xyz") + whole("/5", "x"),
		regular + whole("__.SYMDEF", "i") + whole("a", "") + whole("#1/4", "b c\x00x") + whole("#1/9", "__.SYMDEF") + whole("d", "xyz"),
		regular + whole("a b", "x") + whole("#1/2", "bc") + whole("c", "x") + whole("d", "xyz"),
		thin + whole("/", "idx") + whole("//", table) + h("/0", 1) + h("/5", 2) + h("c/", 3) + h("/0", 0),
		thin + h("a/", 1) + h("b/", 0) + h("c/", 77) + h("d/", api.MaxSize),
	}
}

// faults are ends that no archive may have.
func faults() []string {
	return []string{"\n", h("a/", 1), h("a/", 1)[:59], h("/x", 0), h("/", 0), h("//", 0), h("/9999", 0), h("#1/3", 0), h("__.SYMDEF", 0), h("a/", 0)[:59] + "`"}
}

// places are the places that an iterator tells, up to the first most.
func places(each iter.Seq2[int, api.Member], most int) []int {
	var list []int
	for at := range each {
		if len(list) == most {
			break
		}
		list = append(list, at)
	}
	return list
}

// 9.4: left behind each member, and gone through again from the beginning, by the same iterator.
func TestEachLeftEarly(t *testing.T) {
	for _, b := range taken() {
		p, _, _ := arc.Parse(b)
		for _, fault := range append(faults(), "") {
			each := arc.Each(b + fault)
			for n := range len(p.At) {
				count := 0
				for at, m := range each {
					if at != p.At[count] || m != p.Members[count] {
						t.Errorf("Each(..%.60q): number %d is at %d", last(b), count, at)
					}
					count++
					if count > n {
						break
					}
				}
				if count != n+1 {
					t.Errorf("Each(..%.60q) left behind %d members told %d", last(b), n+1, count)
				}
			}
		}
	}
}

// 9.4: called by hand, it stops when it is told to, and answers no more.
func TestEachStops(t *testing.T) {
	for _, b := range taken() {
		for most := 1; most <= 4; most++ {
			count := 0
			arc.Each(b)(func(int, api.Member) bool {
				count++
				return count < most
			})
			if count != most {
				t.Errorf("Each(..%.60q) told %d members, want %d", last(b), count, most)
			}
		}
	}
}

// 9.4: gone through within its own loop, at every member.
func TestEachWithinItself(t *testing.T) {
	for _, b := range taken() {
		p, _, _ := arc.Parse(b)
		for _, fault := range append(faults(), "") {
			each := arc.Each(b + fault)
			count := 0
			for at := range each {
				if at != p.At[count] {
					t.Errorf("Each(..%.60q): number %d is at %d behind a loop within", last(b), count, at)
				}
				count++
				if got := places(each, count); !slices.Equal(got, p.At[:count]) {
					t.Errorf("Each(..%.60q), a loop within that is left: %v", last(b), got)
				}
				if got := places(each, 100); len(got) < len(p.At) || !slices.Equal(got[:len(p.At)], p.At) {
					t.Errorf("Each(..%.60q), a loop within: %v", last(b), got)
				}
				if count == len(p.At) {
					break
				}
			}
		}
	}
}

// 9.4: two that are pulled in turn do not know of each other.
func TestEachPulled(t *testing.T) {
	for _, b := range taken() {
		p, _, _ := arc.Parse(b)
		each := arc.Each(b)
		one, stopOne := iter.Pull2(each)
		two, stopTwo := iter.Pull2(each)
		for i := range p.At {
			at, m, ok := one()
			if at != p.At[i] || m != p.Members[i] || !ok {
				t.Errorf("Each(..%.60q), pulled: number %d is at %d", last(b), i, at)
			}
			if i%2 == 1 {
				if at, _, ok := two(); at != p.At[i/2] || !ok {
					t.Errorf("Each(..%.60q), pulled beside: number %d is at %d", last(b), i/2, at)
				}
			}
		}
		if _, _, ok := one(); ok {
			t.Errorf("Each(..%.60q), pulled: goes on behind the last", last(b))
		}
		stopOne()
		stopTwo()
	}
}

// 9.4: of an archive that is refused, the members ahead of the fault; none with ErrMagic.
func TestEachOfRefused(t *testing.T) {
	for _, b := range []string{"", "no archive", regular[:7], "x" + regular + h("a/", 0), "!<thin>" + h("a/", 0)} {
		wantEach(t, b, api.Parsed{})
	}
	a := placed{8, mem("a", "x")}
	for _, fault := range faults() {
		wantEach(t, regular+whole("a/", "x")+fault, parsed(api.GNU, 0, "", a))
		wantEach(t, regular+whole("a/", "x")+fault+whole("b/", "y"), parsed(api.GNU, 0, "", a))
		wantEach(t, regular+fault[:min(len(fault), 1)]+whole("a/", "x"), api.Parsed{})
	}
	wantEach(t, regular+whole("/", "x")+"\n", api.Parsed{})
	wantEach(t, regular+whole("/", "x")+whole("//", "y")+"\n", api.Parsed{})
	wantEach(t, regular+h("a/", 1)+"x", api.Parsed{})
	wantEach(t, regular+whole("a", "x")+whole("#1/1", "/"), parsed(api.BSD, 0, "", a))
}
