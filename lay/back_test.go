package lay_test

import (
	"math/rand"
	"strings"
	"testing"

	"shelf/api"
	"shelf/arc"
	"shelf/lay"
)

// 10.7: of a BSD archive with nothing in it the magic is left, which is GNU; of one with an index it is known.
func TestBackOfNothing(t *testing.T) {
	b, e := lay.Write(api.Archive{Kind: api.BSD})
	if p, _, pe := arc.Parse(b); e != api.OK || b != regular || pe != api.OK || p.Kind != api.GNU {
		t.Errorf("an empty BSD archive is %q, %d, and read as kind %d, %d", b, e, p.Kind, pe)
	}
	for _, a := range []api.Archive{{Kind: api.GNU}, {Kind: api.Thin}, {Kind: api.BSD, Form: api.IndexBSD}, {Kind: api.Thin, Form: api.Index32}} {
		b, _ := lay.Write(a)
		if p, _, e := arc.Parse(b); e != api.OK || !same(p.Archive, a) {
			t.Errorf("Parse of Write(%s): %s, %d", short(a), short(p.Archive), e)
		}
	}
}

// wantAgain wants 10.8 of bytes that Parse reads and Write takes again; want is what Write makes of them.
func wantAgain(t *testing.T, b, want string) {
	t.Helper()
	p, at, e := arc.Parse(b)
	if e != api.OK {
		t.Fatalf("Parse(%.200q): %d at %d", b, e, at)
	}
	got, e := lay.Write(p.Archive)
	if e != api.OK || got != want {
		t.Errorf("Write of what Parse read of %.300q: %d, %.300q, want %.300q", b, e, got, want)
		return
	}
	wantSettled(t, p.Archive, got)
}

// wantSettled wants that what Write made of an archive that was read is read as the same, and written as the same bytes.
func wantSettled(t *testing.T, a api.Archive, b string) {
	t.Helper()
	p, at, e := arc.Parse(b)
	nothing := a.Kind == api.BSD && a.Form == api.NoIndex && len(a.Members) == 0
	if e != api.OK || !same(p.Archive, a) && !nothing {
		t.Errorf("what was read as %s is written, and read as %s, %d at %d", short(a), short(p.Archive), e, at)
		return
	}
	if again, e := lay.Write(p.Archive); e != api.OK || again != b {
		t.Errorf("%s is written as other bytes the second time, or not: %d", short(a), e)
	}
}

// 10.8: archives as other writers leave them.
func TestAgain(t *testing.T) {
	long := letters(17)
	table := func(names ...string) string { return whole("//", none, strings.Join(names, "/\n")+"/\n") }
	blanks := strings.Repeat(" ", 32)
	for _, c := range []struct{ b, want string }{
		// names that share a place in the table, that begin within another one, that are short and stand there all the same
		{regular + table(long) + head("/0", plain, 0) + head("/0", plain, 0), regular + table(long, long) + head("/0", plain, 0) + head("/19", plain, 0)},
		{regular + table(long) + head("/10", plain, 0), regular + head(long[10:]+"/", plain, 0)},
		{regular + table("a", long) + whole("/3", plain, "x") + whole("/0", plain, "y"), regular + table(long) + whole("/0", plain, "x") + whole("a/", plain, "y")},
		// names in the table that no member has, a table without names, zeros ahead of a place
		{regular + table(long, "gone") + head("/0", plain, 0), regular + table(long) + head("/0", plain, 0)},
		{regular + whole("//", plain, "") + head("a/", plain, 0), regular + head("a/", plain, 0)},
		{regular + whole("//", plain, "rest") + head("a/", plain, 0), regular + head("a/", plain, 0)},
		{regular + table(long) + head("/000", plain, 0), regular + table(long) + head("/0", plain, 0)},
		// a thin archive with a name in its field
		{thin + head("a/", plain, 5), thin + table("a") + head("/0", plain, 5)},
		{thin + whole("/", plain, "x") + head("a/", plain, maxSize), thin + whole("/", none, "x") + table("a") + head("/0", plain, maxSize)},
		// names ahead of the data that have room in the field, that are filled up, names with blanks in the field
		{regular + whole("#1/3", plain, "a.ox"), regular + whole("a.o", plain, "x")},
		{regular + whole("#1/8", plain, "a.o\x00\x00\x00\x00\x00x"), regular + whole("a.o", plain, "x")},
		{regular + whole("#1/20", plain, long+"\x00\x00\x00x"), regular + whole("#1/17", plain, long+"x")},
		{regular + whole("a b", plain, "x"), regular + whole("#1/3", plain, "a bx")},
		{regular + whole(" a", plain, "x"), regular + whole("#1/2", plain, " ax")},
		{regular + whole("#1/0009", plain, "__.SYMDEFx"), regular + whole("#1/9", plain, "__.SYMDEFx")},
		// numbers of special members are let go, but for the index's date
		{regular + whole("/", api.Meta{Date: 7, UID: 1, GID: 2, Mode: 3}, "x") + whole("//", api.Meta{Date: 7, UID: 1, GID: 2, Mode: 3}, ""), regular + whole("/", api.Meta{Date: 7}, "x")},
		{regular + whole("__.SYMDEF", api.Meta{Date: 7, UID: 1, GID: 2, Mode: 3}, "x"), regular + whole("__.SYMDEF", api.Meta{Date: 7}, "x")},
		// fields of blanks, and zeros ahead of numbers
		{regular + head("a/", plain, 0)[:16] + blanks + "0         `\n", regular + head("a/", none, 0)},
		{regular + head("a/", plain, 0)[:16] + "000000000012000003000004000006440000000002`\nxy", regular + whole("a/", api.Meta{Date: 12, UID: 3, GID: 4, Mode: 0o644}, "xy")},
	} {
		wantAgain(t, c.b, c.want)
	}
}

// 10.8: the largest b of which all is promised: as many members as it has room for, in each kind, and names that fill it.
func TestAgainLargest(t *testing.T) {
	const most = 1048576
	n := (most - 8) / 60
	for _, b := range []string{
		regular + strings.Repeat(head("a/", plain, 0), n),
		regular + strings.Repeat(head("a", plain, 0), n),
		regular + strings.Repeat(head("a b", plain, 0), n),
		thin + strings.Repeat(head("a/", plain, 77), n),
		regular + whole("//", none, letters(3800)+"/\n") + strings.Repeat(head("/0", plain, 0), (most-8-60-3802)/60),
		thin + whole("//", none, letters(3800)+"/\n") + strings.Repeat(head("/0", plain, 0), (most-8-60-3802)/60),
		regular + whole("#1/"+decimal(most-100), plain, letters(most-100)),
		regular + whole("//", none, letters(most-200)+"/\n") + head("/0", plain, 0),
		regular + whole("/", plain, letters(most-68)),
	} {
		p, _, e := arc.Parse(b)
		names := 0
		for _, m := range p.Members {
			names += len(m.Name) + 2
		}
		if e != api.OK || len(b) > most || names > maxTable {
			t.Fatalf("no archive of the promise: %d, %d bytes, %d bytes of names", e, len(b), names)
		}
		again, e := lay.Write(p.Archive)
		if e != api.OK {
			t.Errorf("Write of what Parse read of %.80q..: %d", b, e)
			continue
		}
		wantSettled(t, p.Archive, again)
	}
}

// 10.8: what may be refused: more headers than MaxMembers, and many members with one place in the table.
func TestAgainRefused(t *testing.T) {
	p, _, e := arc.Parse(regular + strings.Repeat(head("a/", plain, 0), maxMembers+1))
	if e != api.OK {
		t.Fatalf("Parse: %d", e)
	}
	wantNoWrite(t, p.Archive, api.ErrRange)
	for _, magic := range []string{regular, thin} {
		p, _, e = arc.Parse(magic + whole("//", none, letters(200000)+"/\n") + strings.Repeat(head("/0", plain, 0), 10000))
		if e != api.OK {
			t.Fatalf("Parse: %d", e)
		}
		if made := memory(func() { wantNoWrite(t, p.Archive, api.ErrSize) }); made > 1<<29 {
			t.Errorf("Write of 10000 members with one name takes %d bytes of memory", made)
		}
	}
}

// chanceBytes is a file of parts such as other writers leave them, most of which Parse reads.
func chanceBytes(r *rand.Rand) string {
	bsd := r.Intn(2) == 0
	b := regular
	if !bsd {
		b = pick(r, regular, thin)
	}
	special := func(field, data string) {
		if r.Intn(2) == 0 {
			b += whole(field, api.Meta{Date: r.Intn(100), UID: r.Intn(9), Mode: r.Intn(9)}, data)
		}
	}
	if bsd {
		special("__.SYMDEF", chanceText(r, 5))
	} else {
		special(pick(r, "/", "/SYM64/"), chanceText(r, 5))
		special("//", pick(r, "", "a/\n", letters(20)+"/\nb.o/\n"))
	}
	for range r.Intn(6) {
		name, data := pick(r, "a", "b.o", "a b", "\xff"), chanceText(r, 5)
		field := pick(r, name+"/", name+"/", "/0", "/1", "/22")
		if bsd {
			text := pick(r, name, letters(17), "__.SYMDEF") + strings.Repeat("\x00", r.Intn(3))
			field = pick(r, name, "#1/"+decimal(len(text)))
			if field != name {
				data = text + data
			}
		}
		if strings.HasPrefix(b, thin) {
			b += head(field, api.Meta{Date: r.Intn(100)}, r.Intn(100))
		} else {
			b += whole(field, api.Meta{Date: r.Intn(100)}, data)
		}
	}
	return b
}

// 10.8: what Parse reads of chance bytes is taken, and settles.
func TestAgainByChance(t *testing.T) {
	r := rand.New(rand.NewSource(108))
	read := map[api.Kind]int{}
	for range 60000 {
		b := chanceBytes(r)
		p, _, e := arc.Parse(b)
		if e != api.OK {
			continue
		}
		read[p.Kind]++
		again, e := lay.Write(p.Archive)
		if e != api.OK {
			t.Fatalf("Write of what Parse read of %q: %d", b, e)
		}
		want, _ := modelWrite(p.Archive)
		if again != want {
			t.Fatalf("Write of what Parse read of %q: %q, want %q", b, again, want)
		}
		wantSettled(t, p.Archive, again)
	}
	for _, kind := range kinds() {
		if read[kind] < 3000 {
			t.Errorf("archives of kind %d came up %d times", kind, read[kind])
		}
	}
}
