package lay_test

import (
	"slices"
	"strings"
	"testing"

	"shelf/api"
	"shelf/lay"
)

// none is the Meta of the table.
var none api.Meta

// 10.1: no members, in each kind, with each form and lengths of its index.
func TestWriteNoMembers(t *testing.T) {
	wantWrite(t, api.Archive{}, regular)
	wantWrite(t, api.Archive{Kind: api.Thin}, thin)
	wantWrite(t, api.Archive{Kind: api.BSD}, regular)
	for _, list := range [][]api.Member{nil, {}} {
		for _, index := range []string{"", "x", "xy", "xyz", "\n", "\x00\xff", letters(101)} {
			for _, c := range []struct {
				kind         api.Kind
				form         api.Form
				magic, field string
			}{
				{api.GNU, api.Index32, regular, "/"}, {api.GNU, api.Index64, regular, "/SYM64/"},
				{api.Thin, api.Index32, thin, "/"}, {api.Thin, api.Index64, thin, "/SYM64/"},
				{api.BSD, api.IndexBSD, regular, "__.SYMDEF"},
			} {
				for _, stamp := range []int{0, 7, 999999999999} {
					a := api.Archive{Kind: c.kind, Form: c.form, Index: index, Stamp: stamp, Members: list}
					wantWrite(t, a, c.magic+whole(c.field, api.Meta{Date: stamp}, index))
				}
			}
		}
	}
}

// 10.1, 10.2: a GNU archive with all that one can have.
func TestWriteGNU(t *testing.T) {
	a := api.Archive{Form: api.Index32, Stamp: 12, Index: "idx", Members: []api.Member{
		{Meta: api.Meta{Date: 1, UID: 2, GID: 3, Mode: 0o755}, Name: "a", Size: 1, Data: "x"},
		{Meta: api.Meta{Date: 999999999999, UID: 999999, GID: 999999, Mode: 16777215}, Name: "a name of twenty two b", Size: 2, Data: "xy"},
		{Name: "fifteen.bytes.o", Size: 3, Data: "\n\n\n"},
		{Name: "sixteen.bytes..o", Size: 0, Data: ""},
		{Name: "a", Size: 4, Data: "`\n!<"},
		{Name: "__.SYMDEF", Size: 1, Data: "/"},
	}}
	wantWrite(t, a, regular+
		"/               12          0     0     0       3         `\nidx\n"+
		"//              0           0     0     0       42        `\na name of twenty two b/\nsixteen.bytes..o/\n"+
		"a/              1           2     3     755     1         `\nx\n"+
		"/0              999999999999999999999999777777772         `\nxy"+
		"fifteen.bytes.o/0           0     0     0       3         `\n\n\n\n\n"+
		"/24             0           0     0     0       0         `\n"+
		"a/              0           0     0     0       4         `\n`\n!<"+
		"__.SYMDEF/      0           0     0     0       1         `\n/\n")
}

// 10.1, 10.2: a thin archive: the table has every name, headers have sizes, and there are no data.
func TestWriteThin(t *testing.T) {
	a := api.Archive{Kind: api.Thin, Form: api.Index64, Stamp: 34, Index: "idx.", Members: []api.Member{
		{Meta: api.Meta{Date: 1, UID: 2, GID: 3, Mode: 0o755}, Name: "a", Size: 1},
		{Meta: plain, Name: "a name of twenty two b", Size: 9999999999},
		{Name: "a", Size: 0},
		{Name: "bc", Size: 2},
	}}
	wantWrite(t, a, thin+
		"/SYM64/         34          0     0     0       4         `\nidx."+
		"//              0           0     0     0       34        `\na/\na name of twenty two b/\na/\nbc/\n"+
		"/0              1           2     3     755     1         `\n"+
		"/3              0           0     0     644     9999999999`\n"+
		"/27             0           0     0     0       0         `\n"+
		"/30             0           0     0     0       2         `\n")
}

// 10.1: a table of odd length has a newline behind it.
func TestWriteOddTable(t *testing.T) {
	wantWrite(t, api.Archive{Kind: api.Thin, Members: []api.Member{away("a", 5)}}, thin+whole("//", none, "a/\n")+head("/0", plain, 5))
	long := letters(17)
	wantWrite(t, api.Archive{Members: []api.Member{mem(long, "xy")}}, regular+head("//", none, 19)+long+"/\n\n"+whole("/0", plain, "xy"))
}

// 10.1, 10.2: a BSD archive: names stand ahead of the data, and are of their size.
func TestWriteBSD(t *testing.T) {
	a := api.Archive{Kind: api.BSD, Form: api.IndexBSD, Stamp: 56, Index: "index", Members: []api.Member{
		{Meta: api.Meta{Date: 1, UID: 2, GID: 3, Mode: 0o755}, Name: "a b", Size: 2, Data: "xy"},
		{Name: "a b", Size: 1, Data: "x"},
		{Name: "__.SYMDEF", Size: 0, Data: ""},
		{Name: "sixteen.bytes..o", Size: 1, Data: "z"},
		{Name: "seventeen.bytes.o", Size: 1, Data: "z"},
		{Name: "c", Size: 0, Data: ""},
	}}
	wantWrite(t, a, regular+
		"__.SYMDEF       56          0     0     0       5         `\nindex\n"+
		"#1/3            1           2     3     755     5         `\na bxy\n"+
		"#1/3            0           0     0     0       4         `\na bx"+
		"#1/9            0           0     0     0       9         `\n__.SYMDEF\n"+
		"sixteen.bytes..o0           0     0     0       1         `\nz\n"+
		"#1/17           0           0     0     0       18        `\nseventeen.bytes.oz"+
		"c               0           0     0     0       0         `\n")
}

// field is how a name of letters alone stands, if nothing stands in the table ahead of it, and what stands ahead of the data.
func field(kind api.Kind, name string) (string, string) {
	switch {
	case kind == api.BSD && len(name) > 16:
		return "#1/" + decimal(len(name)), name
	case kind == api.BSD:
		return name, ""
	case kind == api.GNU && len(name) < 16:
		return name + "/", ""
	}
	return "/0", ""
}

// 10.1, 10.2: names and data of every length, in each kind, with and without an index.
func TestWriteEveryLength(t *testing.T) {
	for _, kind := range kinds() {
		for _, form := range forms(kind) {
			for n := 1; n < 70; n++ {
				for size := range 12 {
					name, data := letters(n), strings.ToUpper(letters(size))
					a := api.Archive{Kind: kind, Form: form, Members: []api.Member{some(kind, name, data), some(kind, "z", "z")}}
					wantWrite(t, a, everyLength(a, name, data))
				}
			}
		}
	}
}

// everyLength is an archive of two members, the second one of the name and data z.
func everyLength(a api.Archive, name, data string) string {
	b := regular
	if a.Kind == api.Thin {
		b = thin
	}
	if a.Form != api.NoIndex {
		b += whole([]string{"", "/", "/SYM64/", "__.SYMDEF"}[a.Form], none, "")
	}
	own, ahead := field(a.Kind, name)
	switch {
	case a.Kind == api.Thin:
		return b + whole("//", none, name+"/\nz/\n") + head(own, plain, len(data)) + head("/"+decimal(len(name)+2), plain, 1)
	case own == "/0":
		b += whole("//", none, name+"/\n")
	}
	last, _ := field(a.Kind, "z")
	return b + whole(own, plain, ahead+data) + whole(last, plain, "z")
}

// 10.2: the numbers of a header, each at its bounds.
func TestWriteNumbers(t *testing.T) {
	for _, kind := range kinds() {
		for _, m := range []api.Meta{
			{}, {Date: 999999999999}, {UID: 999999}, {GID: 999999}, {Mode: 16777215}, {Date: 1, UID: 1, GID: 1, Mode: 1},
			{Date: 999999999999, UID: 999999, GID: 999999, Mode: 16777215}, {UID: 10}, {GID: 10}, {Mode: 8},
		} {
			member := some(kind, "a", "xy")
			member.Meta = m
			a := api.Archive{Kind: kind, Members: []api.Member{member}}
			b := regular + whole("a/", m, "xy")
			switch kind {
			case api.Thin:
				b = thin + whole("//", none, "a/\n") + head("/0", m, 2)
			case api.BSD:
				b = regular + whole("a", m, "xy")
			}
			wantWrite(t, a, b)
		}
	}
}

// 10.2: a thin member's size, up to the widest.
func TestWriteThinSizes(t *testing.T) {
	for _, size := range []int{0, 1, 2, 9, 10, maxSize - 1, maxSize} {
		a := api.Archive{Kind: api.Thin, Members: []api.Member{away("a", size), away("b", 1)}}
		wantWrite(t, a, thin+whole("//", none, "a/\nb/\n")+head("/0", plain, size)+head("/3", plain, 1))
	}
}

// 10.1: data and an index that look like parts of an archive are bytes as any others.
func TestWriteOddBytes(t *testing.T) {
	inner := regular + whole("a/", plain, "x") + whole("//", none, "b/\n")
	for _, kind := range kinds() {
		for _, form := range forms(kind) {
			a := api.Archive{Kind: kind, Form: form}
			for _, data := range []string{inner, "\n", "\n\n", "`\n", strings.Repeat("\x00", 60), "\xff\xfe", inner + "\n"} {
				a.Members = append(a.Members, some(kind, "\xff\n \x01", data), some(kind, "!<arch>\n", data))
			}
			if form != api.NoIndex {
				a.Index = inner + "x"
			}
			b, e := lay.Write(a)
			if e != api.OK {
				t.Fatalf("Write(%s): %d", short(a), e)
			}
			wantWrite(t, a, b)
		}
	}
}

// 10.5: lists around MaxMembers.
func TestWriteMembers(t *testing.T) {
	for _, kind := range kinds() {
		for _, n := range []int{maxMembers - 1, maxMembers} {
			a := api.Archive{Kind: kind, Members: often(n, some(kind, "a", "xyz"))}
			b, e := lay.Write(a)
			want := 8 + 64*n
			if kind == api.Thin {
				want = 8 + 60 + (3*n+1)/2*2 + 60*n
			}
			if e != api.OK || len(b) != want {
				t.Fatalf("Write(%d members of kind %d): %d bytes, %d, want %d", n, kind, len(b), e, want)
			}
			wantPlaces(t, a, b)
			wantBack(t, a, b)
		}
		wantNoWrite(t, api.Archive{Kind: kind, Members: often(maxMembers+1, some(kind, "a", "xyz"))}, api.ErrRange)
	}
}

// 10.5: a table around MaxTable.
func TestWriteTable(t *testing.T) {
	long := letters(maxTable)
	for _, kind := range []api.Kind{api.GNU, api.Thin} {
		a := api.Archive{Kind: kind, Members: []api.Member{some(kind, long[:500], "x"), some(kind, long[504:], "xy")}}
		b, e := lay.Write(a)
		if e != api.OK {
			t.Fatalf("Write with a table of MaxTable bytes in kind %d: %d", kind, e)
		}
		if table := long[:500] + "/\n" + long[504:] + "/\n"; len(table) != maxTable || b[8:8+60+maxTable] != head("//", none, maxTable)+table {
			t.Errorf("the table of MaxTable bytes in kind %d is another one", kind)
		}
		wantPlaces(t, a, b)
		wantBack(t, a, b)
		a.Members[0].Name += "x"
		wantNoWrite(t, a, api.ErrSize)
		a.Members[1].Mode = -1
		wantNoWrite(t, a, api.ErrSize)
		a.Members[1].Name += "/"
		wantNoWrite(t, a, api.ErrName)
	}
	a := api.Archive{Kind: api.BSD, Members: []api.Member{mem(long, "x")}}
	b, e := lay.Write(a)
	if e != api.OK || len(b) != 8+60+maxTable+2 {
		t.Fatalf("Write of a name of MaxTable bytes in BSD: %d, %d bytes", e, len(b))
	}
	wantBack(t, a, b)
}

// R1: many members may share one long name in memory: nothing is made of it that would find no room there.
func TestWriteSharedName(t *testing.T) {
	long := letters(1 << 17)
	for _, kind := range []api.Kind{api.GNU, api.Thin} {
		a := api.Archive{Kind: kind, Members: often(maxMembers, some(kind, long, ""))}
		if made := memory(func() { wantNoWrite(t, a, api.ErrSize) }); made > 1<<29 {
			t.Errorf("Write(%.100s) takes %d bytes of memory", short(a), made)
		}
	}
}

// R4: what is handed in stays as it is, and no later change of it reaches the answer.
func TestWriteMemory(t *testing.T) {
	for _, kind := range kinds() {
		room := often(8, some(kind, "a name of more bytes", "data"))
		kept := slices.Clone(room)
		a := api.Archive{Kind: kind, Members: room[2:5]}
		b, e := lay.Write(a)
		if e != api.OK || !slices.Equal(room, kept) {
			t.Errorf("kind %d: %d, or the list is another one behind the call", kind, e)
		}
		was := strings.Clone(b)
		clear(room)
		if b != was {
			t.Errorf("kind %d: the answer changes with the list", kind)
		}
		again, _ := lay.Write(api.Archive{Kind: kind, Members: kept[2:5]})
		if again != b {
			t.Errorf("kind %d: another answer the second time", kind)
		}
		kept[3].Name = ""
		before := slices.Clone(kept)
		if _, e := lay.Write(api.Archive{Kind: kind, Members: kept[2:5]}); e != api.ErrName || !slices.Equal(kept, before) {
			t.Errorf("kind %d: %d, or the list is another one behind a refusal", kind, e)
		}
	}
}
