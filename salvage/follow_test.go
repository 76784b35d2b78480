package salvage_test

import (
	"slices"
	"strings"
	"testing"

	"shelf/api"
	"shelf/arc"
	"shelf/salvage"
)

// sound is an archive that chapter 9 takes, as chance makes it, in which the two bytes at the end of headers stand nowhere else.
func (d dice) sound() string {
	magic := one(d, regular, regular, thin)
	kind := one(d, api.GNU, api.BSD)
	if magic == thin {
		kind = api.Thin
	}
	b, list := magic, []string{"a/", "b c/", "/0", "/5"}
	if kind == api.BSD {
		b += one(d, "", whole("__.SYMDEF", "i"), whole("__.SYMDEF", "ab"))
		list = []string{"a", "b", "#1/3", "#1/1"}
	} else {
		b += one(d, "", whole("/", "abc"), whole("/SYM64/", "")) + whole("//", "long.name/\nb/\n")
	}
	for range d.Intn(6) {
		data := one(d, "abc", "abcd", "a/bcd\n", strings.Repeat("z", 300))
		b += head(list[d.Intn(len(list))], api.Meta{Date: d.Intn(9), Mode: d.Intn(512)}, len(data))
		if kind != api.Thin {
			b += data + strings.Repeat("\n", len(data)%2)
		}
	}
	if _, _, e := arc.Parse(b); e != api.OK {
		return regular
	}
	return b
}

// 22.7: what chapter 9 takes is read as it reads it, without damage; what it refuses has a damage.
func TestWhole(t *testing.T) {
	taken, refused := 0, 0
	for seed := range 40000 {
		d := newDice(seed)
		b := one(d, d.file, d.archive, d.sound)()
		p, _, e := arc.Parse(b)
		got, damages := salvage.Read(b)
		if e != api.OK {
			refused++
			if len(damages) == 0 {
				t.Fatalf("22.7: %v, but Read(%q) tells no damage", e, b)
			}
			continue
		}
		taken++
		if !sameParsed(got, p) || len(damages) != 0 {
			t.Fatalf("22.7: Read(%q): %s, %v, want %s", b, short(got), damages, short(p))
		}
	}
	if taken < 5000 || refused < 5000 {
		t.Errorf("the test met %d that are taken, %d that are refused", taken, refused)
	}
}

// 22.8: parts and damages tile the bytes, and no two damages stand next to one another. Where the parts are is told by chapter 9: each is taken alone, behind the special members that were taken.
func TestTiled(t *testing.T) {
	for seed := range 40000 {
		b := newDice(seed).file()
		list, want := toldParts(b)
		_, damages := salvage.Read(b)
		if !slices.Equal(damages, want) {
			t.Fatalf("22.8: Read(%q): %v, want %v", b, damages, want)
		}
		at, behindDamage := 8, false
		if len(damages) > 0 && damages[0].Code == api.ErrMagic {
			at = 0
		}
		for at < len(b) || len(damages) > 0 {
			if len(damages) > 0 && damages[0].At == at {
				if behindDamage || damages[0].Len < 0 || damages[0].Len == 0 && damages[0].Code != api.ErrMagic {
					t.Fatalf("22.8: Read(%q): %v at %d", b, damages, at)
				}
				behindDamage = damages[0].Len > 0
				at += damages[0].Len
				damages = damages[1:]
				continue
			}
			if len(list) == 0 || list[0].at != at || list[0].end <= at {
				t.Fatalf("22.8: Read(%q): nothing at %d", b, at)
			}
			at, list, behindDamage = list[0].end, list[1:], false
		}
		if at != len(b) || len(list) != 0 {
			t.Fatalf("22.8: Read(%q): ends at %d of %d, %d parts are left", b, at, len(b), len(list))
		}
	}
}

// tails are the places at which the two bytes at the end of headers stand.
func tails(b string) []int {
	var list []int
	for i := range len(b) {
		if strings.HasPrefix(b[i:], tail) {
			list = append(list, i)
		}
	}
	return list
}

// clean: do the two bytes stand at the ends of these parts' headers alone?
func clean(b string, list []taken) bool {
	return !slices.ContainsFunc(tails(b), func(i int) bool {
		return !slices.ContainsFunc(list, func(x taken) bool { return x.at+58 == i })
	})
}

// without is p without its member number i.
func withoutMember(p api.Parsed, i int) api.Parsed {
	p.Members = slices.Delete(slices.Clone(p.Members), i, i+1)
	p.At = slices.Delete(slices.Clone(p.At), i, i+1)
	return p
}

// wantOneLost wants 22.9 of an archive whose ordinary member number i has another header.
func wantOneLost(t *testing.T, b string, list []taken, i int, header string) bool {
	t.Helper()
	p, _, _ := arc.Parse(b)
	k := slices.IndexFunc(list, func(x taken) bool { return x.at == p.At[i] })
	spoilt := b[:p.At[i]] + header + b[p.At[i]+60:]
	var code api.Errno
	switch _, e := toldStands(spoilt, p.At[i], nil); e {
	case api.ErrTail, api.ErrField:
		code = e
	default:
		return false
	}
	if !clean(spoilt, list) {
		return false
	}
	want := withoutMember(p, i)
	if len(list) == 1 { // there is no part that tells the kind
		want.Kind = 0
		if strings.HasPrefix(b, thin) {
			want.Kind = api.Thin
		}
	}
	wantRead(t, spoilt, want, lost(bad(p.At[i], list[k].end-p.At[i], code)))
	return true
}

// 22.9: one member's header spoilt, in each way and by chance, loses this member alone.
func TestOneHeaderSpoilt(t *testing.T) {
	spoilt := 0
	for seed := range 3000 {
		d := newDice(seed)
		b := d.sound()
		list, _ := toldParts(b)
		p, _, e := arc.Parse(b)
		if e != api.OK || !clean(b, list) {
			t.Fatalf("the test is wrong: %q", b)
		}
		for i := range p.At {
			header := b[p.At[i]:][:60]
			headers := []string{xs, strings.Repeat("\x00", 60), noTail(header), header[:59] + "x", strings.Repeat("x", 58) + tail, noField(header), header[:48] + "-" + header[49:], header[:58] + "\n`"}
			for range 5 {
				headers = append(headers, setByte(header, d.Intn(60), byte(d.Intn(256))))
			}
			for _, other := range headers {
				if wantOneLost(t, b, list, i, other) {
					spoilt++
				}
			}
		}
		if t.Failed() {
			t.Fatalf("22.9: seed %d", seed)
		}
	}
	if spoilt < 20000 {
		t.Errorf("the test met %d spoilt headers", spoilt)
	}
}

// 22.10: each beginning of an archive is read as far as whole parts go, and the rest is one damage.
func TestBeginnings(t *testing.T) {
	for seed := range 400 {
		b := newDice(seed).sound()
		list, _ := toldParts(b)
		p, _, _ := arc.Parse(b)
		for n := 8; n <= len(b); n++ {
			want, end := api.Parsed{}, 8
			if strings.HasPrefix(b, thin) {
				want.Kind = api.Thin
			}
			for _, x := range list {
				if x.end > n {
					break
				}
				end = x.end
				want.Kind = p.Kind
				switch {
				case isIndex(x.sort):
					want.Form, want.Index, want.Stamp = p.Form, p.Index, p.Stamp
				case !isTable(x.sort):
					k := len(want.Members)
					want.Members, want.At = append(want.Members, p.Members[k]), append(want.At, p.At[k])
				}
			}
			got, damages := salvage.Read(b[:n])
			if !sameParsed(got, want) || (len(damages) == 0) != (end == n) || len(damages) > 1 || end < n && (damages[0].At != end || damages[0].Len != n-end) {
				t.Fatalf("22.10: Read(%q): %s, %v, want %s and a damage of %d bytes", b[:n], short(got), damages, short(want), n-end)
			}
		}
	}
}
