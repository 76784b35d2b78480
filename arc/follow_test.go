package arc_test

import (
	"slices"
	"strings"
	"testing"

	"shelf/api"
	"shelf/arc"
)

// wantFollows wants of any bytes what 9.5 to 9.8 say.
func wantFollows(t *testing.T, b string) {
	t.Helper()
	p, place, e := arc.Parse(b)
	if e != api.OK {
		if !sameParsed(p, api.Parsed{}) {
			t.Errorf("Parse(..%q): %d with %s", last(b), e, short(p))
		}
		wantFault(t, b, place, e)
		return
	}
	if place != 0 || len(p.Members) != len(p.At) {
		t.Errorf("Parse(..%q): place %d, %s", last(b), place, short(p))
	}
	wantEach(t, b, p)
	wantStanding(t, b, p)
	wantFitting(t, p)
}

// wantFault wants 9.5 and 9.4 of a refusal.
func wantFault(t *testing.T, b string, place int, e api.Errno) {
	t.Helper()
	if e == api.ErrMagic {
		if place != 0 {
			t.Errorf("ErrMagic at %d", place)
		}
		wantEach(t, b, api.Parsed{})
		return
	}
	if place < 8 || place%2 != 0 || place >= len(b) {
		t.Fatalf("Parse(..%q): %d at %d of %d", last(b), e, place, len(b))
	}
	ahead, _, ahE := arc.Parse(b[:place])
	if ahE != api.OK {
		t.Errorf("Parse(..%q): %d at %d, and %d of what stands ahead", last(b), e, place, ahE)
	}
	wantEach(t, b, ahead)
}

// wantStanding wants 9.6: the parts that the headers' sizes call for fill the file, and the members among them are where they are told.
func wantStanding(t *testing.T, b string, p api.Parsed) {
	t.Helper()
	n := 0
	for at := 8; at != len(b); {
		if at > len(b) || at%2 != 0 {
			t.Fatalf("..%q: a part at %d of %d", last(b), at, len(b))
		}
		field := strings.TrimRight(b[at:at+16], " ")
		special := slices.Contains([]string{"/", "//", "/SYM64/", "__.SYMDEF"}, field)
		size := sizeAt(b, at)
		end := at + 60
		if special || p.Kind != api.Thin {
			end += size
		}
		if !special {
			if n >= len(p.At) || p.At[n] != at {
				t.Fatalf("..%q: the member at %d is not told", last(b), at)
			}
			wantDataAt(t, b, p.Members[n], at+60, end, size, p.Kind)
			n++
		}
		at = end + end%2
	}
	if n != len(p.At) {
		t.Errorf("..%q: %d members told, %d there", last(b), len(p.At), n)
	}
}

// sizeAt is the size that the header at a place tells.
func sizeAt(b string, at int) int {
	size := 0
	for _, c := range strings.TrimRight(b[at+48:at+58], " ") {
		size = 10*size + int(c-'0')
	}
	return size
}

// wantDataAt wants that the member's data end where its part's do, and are as long as Size says.
func wantDataAt(t *testing.T, b string, m api.Member, from, to, size int, kind api.Kind) {
	t.Helper()
	if kind == api.Thin {
		if m.Data != "" || m.Size != size {
			t.Errorf("..%q: a thin member has %.20q, Size %d", last(b), m.Data, m.Size)
		}
		return
	}
	ahead := strings.TrimSuffix(b[from:to], m.Data)
	if len(ahead)+len(m.Data) != to-from || m.Size != len(m.Data) {
		t.Errorf("..%q: data %.20q, Size %d", last(b), m.Data, m.Size)
	}
	if ahead != "" && strings.TrimRight(ahead, "\x00") != m.Name {
		t.Errorf("..%q: %.20q ahead of the data of %.20q", last(b), ahead, m.Name)
	}
}

// wantFitting wants 9.8.
func wantFitting(t *testing.T, p api.Parsed) {
	t.Helper()
	within := func(n, most int) bool { return n >= 0 && n <= most }
	for _, m := range p.Members {
		if m.Name == "" || strings.ContainsAny(m.Name, "/\x00") {
			t.Errorf("the name %.20q is told", m.Name)
		}
		if !within(m.Date, 999999999999) || !within(m.UID, 999999) || !within(m.GID, 999999) || !within(m.Mode, 16777215) || !within(m.Size, 9999999999) {
			t.Errorf("numbers are told that fit no columns: %+v, %d", m.Meta, m.Size)
		}
	}
	if !within(p.Stamp, 999999999999) {
		t.Errorf("the stamp %d is told", p.Stamp)
	}
	forms := map[api.Kind][]api.Form{api.GNU: {0, 1, 2}, api.Thin: {0, 1, 2}, api.BSD: {0, 3}}[p.Kind]
	if !slices.Contains(forms, p.Form) || p.Form == api.NoIndex && (p.Index != "" || p.Stamp != 0) {
		t.Errorf("kind %d with form %d, index %.20q, stamp %d", p.Kind, p.Form, p.Index, p.Stamp)
	}
}

// 9.5 to 9.8 of archives of each kind, and of these with faults behind them.
func TestFollows(t *testing.T) {
	for _, b := range taken() {
		if _, _, e := arc.Parse(b); e != api.OK {
			t.Fatalf("Parse(..%q): %d", last(b), e)
		}
		wantFollows(t, b)
		for _, fault := range faults() {
			wantFollows(t, b+fault)
			wantFollows(t, b+fault+b)
		}
	}
}

// ends are the places at which the parts of an archive begin and end.
func ends(b string) []int {
	list := []int{8}
	for at := 8; at < len(b); {
		size := sizeAt(b, at)
		if strings.HasPrefix(b, thin) && !strings.HasPrefix(b[at:], "/ ") && !strings.HasPrefix(b[at:], "// ") {
			size = 0
		}
		at += 60 + size + size%2
		list = append(list, at)
	}
	return list
}

// 9.2, 9.5: every beginning of an archive: taken where a part ends, and else refused at the part that is cut.
func TestEveryBeginning(t *testing.T) {
	for _, b := range taken() {
		whole, _, _ := arc.Parse(b)
		stops := ends(b)
		for n := range len(b) + 1 {
			part := b[:n]
			switch i, found := slices.BinarySearch(stops, n); {
			case n < 8:
				wantRefused(t, part, 0, api.ErrMagic)
			case found:
				wantBeginning(t, part, whole)
			case n < stops[i-1]+60:
				wantRefused(t, part, stops[i-1], api.ErrShort)
			case n == stops[i]-1 && sizeAt(b, stops[i-1])%2 == 1:
				wantRefused(t, part, stops[i-1], api.ErrPad)
			default:
				wantRefused(t, part, stops[i-1], api.ErrData)
			}
			wantFollows(t, part)
		}
	}
}

// wantBeginning wants that part is taken, with the members of the whole that stand in it.
func wantBeginning(t *testing.T, part string, whole api.Parsed) {
	t.Helper()
	p, _, e := arc.Parse(part)
	n := 0
	for n < len(whole.At) && whole.At[n] < len(part) {
		n++
	}
	if e != api.OK || !slices.Equal(p.At, whole.At[:n]) || !slices.Equal(p.Members, whole.Members[:n]) {
		t.Errorf("Parse(..%q): %s, %d, want %d members", last(part), short(p), e, n)
	}
}

// 9.7: whatever stands behind an archive, its members are told first, as they are.
func TestBytesBehind(t *testing.T) {
	for _, b := range append(taken(), regular, thin) {
		p, _, _ := arc.Parse(b)
		for _, behind := range append(faults(), "x", "\n\n", b, whole("a/", "x"), whole("a", "x"), strings.Repeat("\x00", 200), "`\n", b[8:]) {
			n := 0
			for at, m := range arc.Each(b + behind) {
				if n == len(p.At) {
					break
				}
				if at != p.At[n] || m != p.Members[n] {
					t.Errorf("Each(..%q and ..%.60q): number %d is at %d", last(b), behind, n, at)
				}
				n++
			}
			if n != len(p.At) {
				t.Errorf("Each(..%q and ..%.60q): %d members, want %d", last(b), behind, n, len(p.At))
			}
		}
	}
}

// 9.5 to 9.8 with every byte of small archives changed to bytes that make a difference.
func TestEveryByteChanged(t *testing.T) {
	for _, b := range taken() {
		for at := range len(b) {
			for _, c := range []byte{0, '\n', ' ', '/', '0', '1', '2', '5', '9', 'a', '#', '`', 0xff} {
				wantFollows(t, setByte(b, at, c))
			}
		}
	}
}
