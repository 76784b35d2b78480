package coff_test

import (
	"fmt"
	"math"
	"slices"
	"strings"
	"testing"

	"shelf/api"
	"shelf/coff"
)

// object is a member that defines names, which the tests know without asking.
type object struct {
	api.Member
	syms []string
}

// plain defines nothing.
func plain(name, data string) object { return object{member(name, data), nil} }

func defining(name string, syms ...string) object {
	return object{member(name, defines(syms...)), syms}
}

func membersOf(l []object) []api.Member {
	var all []api.Member
	for _, x := range l {
		all = append(all, x.Member)
	}
	return all
}

// tableOf is the table of long names, and where each member's name stands in it.
func tableOf(l []object) (string, []int) {
	table, places := "", make([]int, len(l))
	for i, x := range l {
		if len(x.Name) > 15 {
			places[i] = len(table)
			table += x.Name + "\x00"
		}
	}
	return table, places
}

// placesOf are the members' headers' places, as the chapter reckons them.
func placesOf(l []object, firstSize, secondSize int) []int {
	even := func(n int) int { return (n + 1) / 2 * 2 }
	at := 8 + 60 + even(firstSize) + 60 + even(secondSize)
	if table, _ := tableOf(l); table != "" {
		at += 60 + even(len(table))
	}
	var places []int
	for _, x := range l {
		places = append(places, at)
		at += 60 + even(len(x.Data))
	}
	return places
}

// linkersOf are the contents of the two linker members of members at these places.
func linkersOf(l []object, at []int) (string, string) {
	var pairs []api.Entry
	for i, x := range l {
		for _, name := range x.syms {
			pairs = append(pairs, pair(name, at[i]))
		}
	}
	old := first(pairs...)
	slices.SortFunc(pairs, func(a, b api.Entry) int {
		return strings.Compare(fmt.Sprintf("%s\x00%020d", a.Name, a.At), fmt.Sprintf("%s\x00%020d", b.Name, b.At))
	})
	var numbers []int
	var names []string
	for _, x := range pairs {
		numbers, names = append(numbers, slices.Index(at, x.At)+1), append(names, x.Name)
	}
	return old, second(at, numbers, names...)
}

// archive is what Build is to write.
func archive(stamp int, l ...object) string {
	one, two := linkersOf(l, upTo(len(l))) // as long as they will be
	one, two = linkersOf(l, placesOf(l, len(one), len(two)))
	b := magic + dated("/", stamp, one) + dated("/", stamp, two)
	table, places := tableOf(l)
	if table != "" {
		b += whole("//", table)
	}
	for i, x := range l {
		field := x.Name + "/"
		if len(x.Name) > 15 {
			field = fmt.Sprint("/", places[i])
		}
		b += head(field, x.Meta, len(x.Data)) + padded(x.Data)
	}
	return b
}

// wantArchive wants of Build what archive tells.
func wantArchive(t *testing.T, stamp int, l ...object) {
	t.Helper()
	wantBuild(t, membersOf(l), stamp, archive(stamp, l...))
}

// 23.1: all parts in their order, byte by byte.
func TestBuildParts(t *testing.T) {
	a, b := defines("go", "f")+"x", defines("go")
	at := 8 + 60 + 24 + 60 + 30 + 60 + 18
	bt := at + 60 + len(a) + 1
	if len(a)%2 != 1 || len(b)%2 != 0 {
		t.Fatalf("%d and %d bytes", len(a), len(b))
	}
	wantBuild(t, members(member("a.long.name.of.18", a), member("b.o", b)), 99, magic+
		head("/", api.Meta{Date: 99}, 24)+high4(3)+high4(at)+high4(at)+high4(bt)+"go\x00f\x00go\x00"+
		head("/", api.Meta{Date: 99}, 30)+low4(2)+low4(at)+low4(bt)+low4(3)+low2(1)+low2(1)+low2(2)+"f\x00go\x00go\x00"+
		head("//", api.Meta{}, 18)+"a.long.name.of.18\x00"+
		head("/0", own, len(a))+a+"\n"+
		head("b.o/", own, len(b))+b)
}

// 23.1: what is odd has a newline behind it, which does not count: data, the table, the second linker member.
func TestBuildOdd(t *testing.T) {
	for _, l := range [][]object{
		{plain("a", "")}, {plain("a", "x")}, {plain("a", "xy")}, {plain("a", "x\n")}, {plain("a", "\n")}, {plain("a", "\x00")},
		{plain("a", "x"), plain("b", "y")}, {plain("a", "xy"), plain("b", "x"), plain("c", "")},
		{plain(letters(16), "")}, {plain(letters(17), "")}, {plain(letters(16), "x"), plain(letters(18), "x")}, {plain(letters(16), "x"), plain(letters(17), "x")},
		{defining("a", "f")}, {defining("a", "go")}, {defining("a", "f", "go")}, {defining("a", "go", "fo")}, {defining("a", "f", "g")},
		{defining("a", "f"), defining("b", "go")}, {defining(letters(16), "f"), defining(letters(17), "go")},
	} {
		wantArchive(t, 7, l...)
	}
}

// 23.1: names of 15 bytes stand in their field, those of 16 in the table; two equal ones stand there twice.
func TestBuildNames(t *testing.T) {
	for length := 1; length <= 40; length++ {
		wantArchive(t, 0, plain(letters(length), "data"))
		wantArchive(t, 0, plain("a", ""), plain(letters(length), "data"), plain(letters(30), "x"), plain(letters(length), "y"))
	}
	wantBuild(t, members(mem(letters(15), ""), mem(letters(16), ""), mem("b", ""), mem(letters(16), "")), 0, magic+
		whole("/", first())+whole("/", second(ats(250, 310, 370, 430), nil))+
		whole("//", letters(16)+"\x00"+letters(16)+"\x00")+
		h(letters(15)+"/", 0)+h("/0", 0)+h("b/", 0)+h("/17", 0))
	for _, name := range []string{"__.SYMDEF", "__.SYMDEF SORTED", "#1", "SYM64", " ", "a ", " a b ", "\n", "\xff", "`\n", letters(14) + " ", letters(15) + " ", letters(20) + "\n"} {
		wantArchive(t, 0, plain(name, "x"), plain(name, "y"))
	}
	long := strings.Repeat(letters(1000), 100)
	wantArchive(t, 0, plain(long, "x"), plain(letters(16), "y"), plain(long, ""))
}

// 23.1: both linker members stand there without members and without symbols, too, and have the stamp.
func TestBuildLittle(t *testing.T) {
	for _, stamp := range []int{0, 1, 123456, 999999999999} {
		wantArchive(t, stamp)
		wantArchive(t, stamp, plain("a", "xy"))
		wantArchive(t, stamp, plain("a", ""), plain("b", "\x7fELF"), plain("a", "x"))
	}
	if b := built(t, nil, 999999999999); b != magic+head("/", api.Meta{Date: 999999999999}, 4)+high4(0)+head("/", api.Meta{Date: 999999999999}, 8)+low4(0)+low4(0) {
		t.Errorf("%q", b)
	}
}

// 23.1, 23.2: the first linker member has the pairs member by member, the second one in order.
func TestBuildSymbols(t *testing.T) {
	wantArchive(t, 3, defining("b.o", "z", "a", "z"), defining("a.o", "a", "m"), plain("c.o", "none"), defining("a.o", "a", "z"))
	wantArchive(t, 3, plain("none", ""), defining("x", "\xff", "\x01", "a/b", "a b\n"), defining("y", "\x01"))
	l := []object{}
	for i := range 300 {
		l = append(l, defining(fmt.Sprint(i), fmt.Sprint("s", i*7%300), "common", fmt.Sprint("s", i%10)))
	}
	wantArchive(t, 3, l...)
}

// 23.1: a file's undefined and local symbols are in neither linker member, and a spoilt file has none.
func TestBuildOffersGlobalsAlone(t *testing.T) {
	local, undefined, weak := offer(1), offer(3), offer(5)
	local.Info, undefined.Shndx, weak.Info = 0, 0, 2<<4
	data := withSymbols("\x00l\x00u\x00w\x00g\x00", local, undefined, weak, offer(7))
	wantArchive(t, 0, object{member("a", data), []string{"w", "g"}}, plain("b", data[:len(data)-1]), defining("c", "f"))
}

// 23.1: as many members as there may be, and the greatest of all numbers that they may have.
func TestBuildMost(t *testing.T) {
	greatest := api.Meta{Date: 999999999999, UID: 999999, GID: 999999, Mode: 0o77777777}
	wantArchive(t, 999999999999, object{api.Member{Meta: greatest, Name: "a", Size: 1, Data: "x"}, nil})
	l := slices.Repeat(members(member("a", "")), 65535)
	b := built(t, l, 5)
	at := 8 + 60 + 4 + 60 + 8 + 4*65535
	if len(b) != at+60*65535 || b[at:at+60] != head("a/", own, 0) || b[len(b)-60:] != head("a/", own, 0) {
		t.Errorf("%d bytes", len(b))
	}
	if p, _, _, e := coff.Read(b); e != api.OK || len(p.At) != 65535 || p.At[0] != at || p.At[65534] != len(b)-60 {
		t.Errorf("%d places, %d", len(p.At), e)
	}
}

// badNames are not valid.
func badNames() []string {
	return []string{"", "/", "a/b", "/a", "a/", "\x00", "a\x00", "\x00a", letters(20) + "/", letters(20) + "\x00", "//"}
}

// badSizes are not those of the data xy.
func badSizes() []int {
	return []int{0, 1, 3, -1, -2, 1<<32 + 2, 9999999999, 10000000000, math.MaxInt, math.MinInt}
}

// badMetas have a number that its columns don't hold.
func badMetas() []api.Meta {
	return []api.Meta{{Date: -1}, {Date: 1000000000000}, {UID: -1}, {UID: 1000000}, {GID: -1}, {GID: 1000000}, {Mode: -1}, {Mode: 0o100000000},
		{Date: math.MaxInt}, {UID: math.MaxInt}, {GID: math.MinInt}, {Mode: math.MaxInt}}
}

// 23.6: each refusal, whichever member is to blame.
func TestBuildRefusals(t *testing.T) {
	blame := func(bad api.Member, e api.Errno) {
		t.Helper()
		for length := 1; length <= 3; length++ {
			for i := range length {
				l := members(member("a", "x"), member(letters(20), "yz"), member("c", defines("f")))[:length]
				l[i] = bad
				wantNoBuild(t, l, 5, e)
			}
		}
	}
	for _, name := range badNames() {
		blame(member(name, "xy"), api.ErrName)
	}
	for _, size := range badSizes() {
		blame(api.Member{Meta: own, Name: "a", Size: size, Data: "xy"}, api.ErrSize)
	}
	for _, meta := range badMetas() {
		blame(api.Member{Meta: meta, Name: "a", Size: 2, Data: "xy"}, api.ErrWide)
	}
	for _, stamp := range []int{-1, 1000000000000, math.MaxInt, math.MinInt} {
		wantNoBuild(t, nil, stamp, api.ErrWide)
		wantNoBuild(t, members(member("a", "x")), stamp, api.ErrWide)
	}
	for _, count := range []int{65536, 65537, 100000} {
		wantNoBuild(t, slices.Repeat(members(member("a", "")), count), 5, api.ErrFar)
	}
}

// 23.6: each refusal is looked at for all members ahead of the next one.
func TestBuildRefusalsInOrder(t *testing.T) {
	name, size, wide := member("a/b", ""), api.Member{Name: "a", Size: 1}, api.Member{Name: "a", Meta: api.Meta{UID: -1}}
	wantNoBuild(t, members(size, wide, name), -1, api.ErrName)
	wantNoBuild(t, members(wide, size, name), -1, api.ErrName)
	wantNoBuild(t, members(wide, name), 0, api.ErrName)
	wantNoBuild(t, members(wide, size), -1, api.ErrSize)
	wantNoBuild(t, members(size, wide), 0, api.ErrSize)
	wantNoBuild(t, members(size), -1, api.ErrSize)
	wantNoBuild(t, members(member("a", "x"), wide), 0, api.ErrWide)
	for _, bad := range members(name, size, wide) {
		wantNoBuild(t, slices.Repeat(members(bad), 65536), -1, api.ErrFar)
		wantNoBuild(t, append(members(bad), slices.Repeat(members(member("a", "")), 65535)...), 0, api.ErrFar)
	}
	both := api.Member{Meta: api.Meta{Date: -1}, Name: "", Size: 1}
	wantNoBuild(t, members(both), -1, api.ErrName)
	both.Name = "a"
	wantNoBuild(t, members(both), -1, api.ErrSize)
}

// 23.6: the table of long names has 2 to the 26 bytes at most.
func TestBuildTableSize(t *testing.T) {
	long := strings.Repeat("n", 1<<20-1)
	l := slices.Repeat(members(member(long, "")), 64)
	b := built(t, l, 5)
	if at := 8 + 64 + 60 + 8 + 64*4; b[at:at+60] != head("//", api.Meta{}, 1<<26) {
		t.Errorf("the table's header is %q", b[at:at+60])
	}
	wantNoBuild(t, append(l, member(letters(16), "")), -1, api.ErrSize)
	l[63].Name += "n"
	wantNoBuild(t, l, 5, api.ErrSize)
	l[63].Name = long[2:] + "/"
	wantNoBuild(t, append(l, member(long, "")), 5, api.ErrName)
	wantNoBuild(t, slices.Repeat(members(member(long, "")), 2000), 5, api.ErrSize)
}
