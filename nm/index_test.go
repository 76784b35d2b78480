package nm_test

import (
	"fmt"
	"testing"

	"shelf/api"
)

// forms are the forms of an index.
func forms() []api.Form { return []api.Form{api.Index32, api.Index64, api.IndexBSD} }

// encoded is the content of an index of this form.
func encoded(form api.Form, list []pair) string {
	switch form {
	case api.Index32:
		return bigIndex(4, list...)
	case api.Index64:
		return bigIndex(8, list...)
	}
	return symdef(list...)
}

// indexField is the name field of the index of this form.
func indexField(form api.Form) string {
	return map[api.Form]string{api.Index32: "/", api.Index64: "/SYM64/", api.IndexBSD: "__.SYMDEF"}[form]
}

// fieldOf is a short name's field in an archive with an index of this form.
func fieldOf(form api.Form, name string) string {
	if form == api.IndexBSD {
		return name
	}
	return name + "/"
}

// inside is a member: a short name and data.
type inside struct{ name, data string }

// indexed is a regular archive with an index ahead of its members. The pairs' places are members' numbers, from 0 on; any other number stands in the index as it is.
func indexed(form api.Form, list []pair, members ...inside) string {
	at := 8 + 60 + len(encoded(form, list))
	var places []int
	body := ""
	for _, m := range members {
		places = append(places, at+len(body))
		body += part(fieldOf(form, m.name), m.data)
	}
	filled := make([]pair, len(list))
	for i, x := range list {
		filled[i] = x
		if x.at >= 0 && x.at < len(places) {
			filled[i].at = places[x.at]
		}
	}
	return regular(part(indexField(form), encoded(form, filled)), body)
}

// two are two members that define what the index may say.
func two() []inside { return []inside{{"a.o", mainO()}, {"n.o", narrowO()}} }

const twoLines = "\na.o:\n" + both + "\nn.o:\n" + narrowLines

// 20.7: the index in each form, with s and without; its entries in their order, whatever order of rows is asked for.
func TestIndex(t *testing.T) {
	for _, form := range forms() {
		list := files{"x.a": indexed(form, []pair{{"n", 1}, {"main", 0}, {"a b", 1}, {"n", 1}, {"zoo", 0}}, two()...)}
		told7 := "Archive index:\nn in n.o\nmain in a.o\n\"a b\" in n.o\nn in n.o\nzoo in a.o\n\n"
		wantRun(t, list, "x.a", told(twoLines), 1)
		wantRun(t, list, "-s x.a", told(told7+twoLines), 1)
		wantRun(t, list, "-sp x.a", told(told7+twoLines), 1)
		wantRun(t, list, "-sn x.a", told(told7+"\na.o:\n"+putsLine+mainLine+"\nn.o:\n         U x\n00000010 D n\n"), 1)
		wantRun(t, list, "-r -s x.a", told(told7+"\na.o:\n"+putsLine+mainLine+"\nn.o:\n         U x\n00000010 D n\n"), 1)
		wantRun(t, list, "-gus x.a", told(told7+"\na.o:\n"+putsLine+"\nn.o:\n         U x\n"), 1)
		wantRun(t, list, "-su x.a", told(told7+"\na.o:\n"+putsLine+"\nn.o:\n         U x\n"), 1)
		wantRun(t, list, "-sAu x.a", told(told7+"x.a:a.o:"+putsLine+"x.a:n.o:         U x\n"), 1)
		wantRun(t, list, "-su x.a x.a", told("\nx.a:\n"+told7+"\na.o:\n"+putsLine+"\nn.o:\n         U x\n\nx.a:\n"+told7+"\na.o:\n"+putsLine+"\nn.o:\n         U x\n"), 2)
	}
}

// 20.7: an archive without an index tells none; an index without entries tells its heading and the newline behind it.
func TestNoIndex(t *testing.T) {
	list := files{"lib.a": regular(part("a.o/", mainO()), part("n.o/", narrowO())), "bsd.a": regular(part("a.o", mainO()), part("n.o", narrowO())), "empty.a": regular()}
	wantRun(t, list, "-s lib.a", told(twoLines), 1)
	wantRun(t, list, "-s bsd.a", told(twoLines), 1)
	wantRun(t, list, "-s empty.a", told(""), 1)
	for _, form := range forms() {
		list["none.a"], list["alone.a"] = indexed(form, nil, two()...), indexed(form, nil)
		wantRun(t, list, "-s none.a", told("Archive index:\n\n"+twoLines), 1)
		wantRun(t, list, "-s alone.a", told("Archive index:\n\n"), 1)
		wantRun(t, list, "none.a", told(twoLines), 1)
	}
}

// 20.7: names are quoted, the entry's and the member's.
func TestIndexQuoted(t *testing.T) {
	odd := []inside{{"a b.o", mainO()}, {"\xff", narrowO()}, {"é", narrowO()}}
	for _, form := range []api.Form{api.Index32, api.Index64} {
		list := files{"my lib": indexed(form, []pair{{"c\nd", 0}, {"\xff", 1}, {"é", 2}, {`"`, 0}, {"in", 2}}, odd...)}
		want := "Archive index:\n\"c\\nd\" in \"a b.o\"\n\"\\xff\" in \"\\xff\"\né in é\n\"\\\"\" in \"a b.o\"\nin in é\n\n"
		want += "\n\"a b.o\":\n" + putsLine + "\n\"\\xff\":\n         U x\n\né:\n         U x\n"
		wantWords(t, list, []string{"-us", "my lib"}, told(want), 1)
	}
	long := regular(part("__.SYMDEF", symdef(pair{"x y", 8 + 60 + len(symdef(pair{"x y", 0}))})), part("#1/5", "a b.o"+mainO()))
	wantRun(t, files{"x": long}, "-su x", told("Archive index:\n\"x y\" in \"a b.o\"\n\n\n\"a b.o\":\n"+putsLine), 1)
}

// 20.7: members of one name are told by that name; each member can be found, the first, the last and those between.
func TestEachMember(t *testing.T) {
	for _, form := range forms() {
		var members []inside
		var pairs []pair
		want := "Archive index:\n"
		for i := range 9 {
			members = append(members, inside{fmt.Sprint("m", i%5), object()})
			pairs = append(pairs, pair{fmt.Sprint("s", 8-i), 8 - i})
		}
		for _, x := range pairs {
			want += fmt.Sprintf("%s in m%d\n", x.name, x.at%5)
		}
		wantRun(t, files{"x": indexed(form, pairs, members...)}, "-sA x", told(want+"\n"), 1)
	}
}

// 20.7: an index that is refused, and one with an entry whose place is no member's, end it: nothing of the index and no member is told.
func TestBadIndex(t *testing.T) {
	for _, form := range forms() {
		field, good := indexField(form), encoded(form, []pair{{"main", 0}})
		bad := []string{
			regular(part(field, "x"), part(fieldOf(form, "a.o"), mainO())), regular(part(field, "")), regular(part(field, good[:len(good)-3]), part(fieldOf(form, "a.o"), mainO())),
		}
		for _, at := range []int{8, 9, 66, 67, 1<<31 - 1} {
			for _, pairs := range [][]pair{{{"main", at}}, {{"main", 0}, {"n", 1}, {"main", at}}, {{"x", at}, {"main", 0}}} {
				bad = append(bad, indexed(form, pairs, two()...))
			}
		}
		bad = append(bad, indexed(form, []pair{{"main", 8}}), indexed(form, []pair{{"a", 0}}))
		for _, b := range bad {
			list := files{"x": b, "a.o": mainO()}
			wantRun(t, list, "-s x", no("x", api.ErrIndex, ""), 1)
			wantRun(t, list, "-s x a.o", no("x", api.ErrIndex, "\nx:\n"), 1)
			wantRun(t, list, "-sA a.o x a.o", no("x", api.ErrIndex, "a.o:"+mainLine+"a.o:"+putsLine), 2)
			wantRun(t, list, "-s a.o x", no("x", api.ErrIndex, "\na.o:\n"+both+"\nx:\n"), 2)
		}
	}
}

// 20.7: a place inside a member, of its neighbour's data, behind the last one, of the index itself or of the table of long names is no member's.
func TestPlacesOfOthers(t *testing.T) {
	for _, form := range forms() {
		b := indexed(form, []pair{{"main", 0}}, two()...)
		first := 68 + len(encoded(form, []pair{{"main", 0}}))
		second := first + len(part("", mainO()))
		for at := range len(b) + 4 {
			x := indexed(form, []pair{{"main", at + 2}}, two()...)
			want := no("x", api.ErrIndex, "")
			switch at + 2 {
			case first:
				want = told("Archive index:\nmain in a.o\n\n\na.o:\n" + both + "\nn.o:\n" + narrowLines)
			case second:
				want = told("Archive index:\nmain in n.o\n\n\na.o:\n" + both + "\nn.o:\n" + narrowLines)
			}
			wantResult(t, fmt.Sprintf("20.7: form %d, place %d", form, at+2), runOf(durable(t, files{"x": x}), "-s x"), want)
		}
	}
	table := part("//", "seventeen.bytes.o/\n")
	size := len(bigIndex(4, pair{"main", 0}))
	for at, want := range map[int]api.Result{68 + size: no("x", api.ErrIndex, ""), 68 + size + len(table): told("Archive index:\nmain in seventeen.bytes.o\n\n\nseventeen.bytes.o:\n" + putsLine)} {
		x := regular(part("/", bigIndex(4, pair{"main", at})), table, part("/0", mainO()))
		wantRun(t, files{"x": x}, "-su x", want, 1)
	}
}

// 20.7: without s nobody asks what the index holds.
func TestIndexUnasked(t *testing.T) {
	for _, form := range forms() {
		b := regular(part(indexField(form), "x"), part(fieldOf(form, "a.o"), mainO()))
		for _, args := range []string{"x", "-g x", "-p x"} {
			wantRun(t, files{"x": b}, args, told("\na.o:\n"+both), 1)
		}
		wantRun(t, files{"x": indexed(form, []pair{{"main", 9}}, two()...)}, "x", told(twoLines), 1)
	}
}

// 20.7: a thin archive's index leads to its members, and is told and refused ahead of any member's file.
func TestThinIndex(t *testing.T) {
	for _, form := range []api.Form{api.Index32, api.Index64} {
		size := len(encoded(form, []pair{{"main", 0}, {"n", 0}}))
		at := 68 + size
		heads := head("a.o/", len(mainO())) + head("gone/", 3)
		b := thin(part(indexField(form), encoded(form, []pair{{"main", at + 60}, {"n", at}})), heads)
		list := files{"x": b, "a.o": mainO()}
		wantRun(t, list, "x", no("gone", api.ErrLost, "\na.o:\n"+both), 3)
		wantRun(t, list, "-s x", no("gone", api.ErrLost, "Archive index:\nmain in gone\nn in a.o\n\n\na.o:\n"+both), 3)
		bad := thin(part(indexField(form), encoded(form, []pair{{"main", at + 60}, {"n", at + 30}})), heads)
		wantRun(t, list.but("x", bad), "-s x", no("x", api.ErrIndex, ""), 1)
	}
}
