package head_test

import (
	"fmt"
	"math/rand"
	"regexp"
	"strconv"
	"strings"
	"testing"

	"shelf/api"
	"shelf/head"
)

var (
	decimal = regexp.MustCompile(`^[0-9]* *$`)
	octal   = regexp.MustCompile(`^[0-7]* *$`)
)

// modelParse is the chapter's words by other means: each field held against an expression, its digits read by strconv.
func modelParse(b string, at int) (h api.Head, e api.Errno) {
	if at < 0 || at > len(b) || len(b[at:]) < 60 {
		return h, api.ErrShort
	}
	b = b[at:][:60]
	if b[58] != 96 || b[59] != 10 {
		return h, api.ErrTail
	}
	rest := b[16:58]
	var n [5]int
	for i, width := range []int{12, 6, 6, 8, 10} {
		form, base := decimal, 10
		if i == 3 {
			form, base = octal, 8
		}
		if !form.MatchString(rest[:width]) {
			return h, api.ErrField
		}
		v, err := strconv.ParseInt("0"+strings.ReplaceAll(rest[:width], " ", ""), base, 64)
		if err != nil {
			panic(err)
		}
		n[i], rest = int(v), rest[width:]
	}
	name := b[:16]
	for strings.HasSuffix(name, " ") {
		name = name[:len(name)-1]
	}
	return api.Head{Meta: api.Meta{Date: n[0], UID: n[1], GID: n[2], Mode: n[3]}, Name: name, Size: n[4]}, api.OK
}

// modelFormat is the chapter's words by other means: the library's own widths and bases.
func modelFormat(h api.Head) (string, api.Errno) {
	if len(h.Name) > 16 || h.Name != "" && h.Name[len(h.Name)-1] == 32 {
		return "", api.ErrName
	}
	if min(h.Date, h.UID, h.GID, h.Mode, h.Size) < 0 {
		return "", api.ErrWide
	}
	numbers := fmt.Sprintf("%-12d%-6d%-6d%-8o%-10d\x60\n", h.Date, h.UID, h.GID, h.Mode, h.Size)
	if len(numbers) != 44 {
		return "", api.ErrWide
	}
	return h.Name + strings.Repeat(" ", 16-len(h.Name)) + numbers, api.OK
}

// chanceHeader is a header, most often with a few bytes struck.
func chanceHeader(r *rand.Rand) string {
	w := written{}
	for _, f := range numberFields() {
		digits := strconv.FormatInt(r.Int63n(int64(f.most)+1)>>r.Intn(40), f.base)
		if room := f.width - len(digits); r.Intn(4) == 0 {
			digits = strings.Repeat("0", r.Intn(room+1)) + digits
		}
		if r.Intn(8) == 0 {
			digits = ""
		}
		*f.text(&w) = digits
	}
	w.name = chanceName(r, 16)
	b := w.bytes()
	for range r.Intn(3) {
		const some = "  0012789\x00\x60\n/x\xff-"
		b = setByte(b, r.Intn(len(b)), some[r.Intn(len(some))])
	}
	return b
}

func chanceName(r *rand.Rand, most int) string {
	const some = "  ab/\x00\n\xff"
	name := make([]byte, r.Intn(most+1))
	for i := range name {
		name[i] = some[r.Intn(len(some))]
	}
	return string(name)
}

// chanceHead is a Head of which the most can be written.
func chanceHead(r *rand.Rand) (h api.Head) {
	h.Name = chanceName(r, 14+r.Intn(6))
	for _, f := range numberFields() {
		n := int(r.Int63n(int64(f.most)+1)) >> r.Intn(40)
		switch r.Intn(60) {
		case 0:
			n = -n
		case 1:
			n = f.most + r.Intn(2)
		case 2:
			n = int(r.Uint64())
		}
		*f.value(&h) = n
	}
	return h
}

// 7.1 to 7.3, 7.6: chance headers, with chance bytes around them, against the chapter's words.
func TestChanceHeaders(t *testing.T) {
	r := rand.New(rand.NewSource(7))
	seen := map[api.Errno]int{}
	for range 60000 {
		ahead, behind := chanceName(r, 70), chanceName(r, 3)
		b, at := ahead+chanceHeader(r)+behind, len(ahead)
		if r.Intn(10) == 0 {
			at += r.Intn(5) - 2
		}
		want, e := modelParse(b, at)
		got, gotE := head.Parse(b, at)
		if got != want || gotE != e {
			t.Fatalf("Parse(%q, %d): %+v, %d, want %+v, %d", b, at, got, gotE, want, e)
		}
		seen[e]++
		if e == api.OK {
			wantWrittenBack(t, b[at:at+60], got)
		}
	}
	wantSeen(t, seen, api.OK, api.ErrShort, api.ErrTail, api.ErrField)
}

// wantWrittenBack wants 7.6 of the header b, of which Parse read h.
func wantWrittenBack(t *testing.T, b string, h api.Head) {
	t.Helper()
	again := mustFormat(t, h)
	wantParse(t, again, 0, h)
	same := true
	for _, f := range numberFields() {
		field := strings.TrimRight(b[f.at:f.at+f.width], " ")
		same = same && field != "" && (field == "0" || field[0] != '0')
	}
	if (again == b) != same {
		t.Errorf("from %q to %q", b, again)
	}
}

// 7.4 to 7.6: chance Heads against the chapter's words.
func TestChanceHeads(t *testing.T) {
	r := rand.New(rand.NewSource(77))
	seen := map[api.Errno]int{}
	for range 60000 {
		h := chanceHead(r)
		want, e := modelFormat(h)
		if got, gotE := head.Format(h); got != want || gotE != e {
			t.Fatalf("Format(%+v): %q, %d, want %q, %d", h, got, gotE, want, e)
		}
		seen[e]++
		if e == api.OK {
			wantBack(t, h)
		}
	}
	wantSeen(t, seen, api.OK, api.ErrName, api.ErrWide)
}

// wantSeen wants that chance has led to each of the answers often enough to tell something, and to no other.
func wantSeen(t *testing.T, seen map[api.Errno]int, all ...api.Errno) {
	t.Helper()
	for _, e := range all {
		if seen[e] < 500 {
			t.Errorf("answer %d came up %d times", e, seen[e])
		}
		delete(seen, e)
	}
	if len(seen) > 0 {
		t.Errorf("answers of no promise: %v", seen)
	}
}
