package index_test

import (
	"bytes"
	"encoding/binary"
	"io"
	"math"
	"math/big"
	"math/rand"
	"slices"
	"strings"
	"testing"

	"shelf/api"
)

// number writes v as the form's numbers stand: what big.Int says of it, turned round if the lowest byte goes first.
func number(form api.Form, v int) string {
	width := 4
	if form == api.Index64 {
		width = 8
	}
	b := make([]byte, width)
	big.NewInt(int64(v)).FillBytes(b)
	if form == api.IndexBSD {
		slices.Reverse(b)
	}
	return string(b)
}

// modelEncode is 11.3 and the table of formats by other means.
func modelEncode(form api.Form, l []api.Entry) (string, api.Errno) {
	if form != 1 && form != 2 && form != 3 {
		return "", api.ErrForm
	}
	text := ""
	if len(l) > 0 {
		text = strings.Join(namesOf(l), "\x00") + "\x00"
	}
	for _, x := range l {
		if x.Name == "" || strings.Contains(x.Name, "\x00") {
			return "", api.ErrName
		}
	}
	for _, x := range l {
		if x.At < 0 || form != 2 && x.At > 1<<32-1 {
			return "", api.ErrFar
		}
	}
	if len(text)%2 == 1 {
		text += "\x00"
	}
	var b bytes.Buffer
	if form != 3 {
		b.WriteString(number(form, len(l)))
		for _, x := range l {
			b.WriteString(number(form, x.At))
		}
		return b.String() + text, api.OK
	}
	b.WriteString(number(form, 8*len(l)))
	place := 0
	for _, x := range l {
		b.WriteString(number(form, place) + number(form, x.At))
		place += len(x.Name + "\x00")
	}
	return b.String() + number(form, len(text)) + text, api.OK
}

// modelRow is 11.4's first point by other means: a reader that runs out refuses by itself.
func modelRow(form api.Form, data string) ([]api.Entry, bool) {
	r := bytes.NewBufferString(data)
	next := func() (uint64, bool) {
		if form == 2 {
			var v uint64
			err := binary.Read(r, binary.BigEndian, &v)
			return v, err == nil
		}
		var v uint32
		err := binary.Read(r, binary.BigEndian, &v)
		return uint64(v), err == nil
	}
	count, ok := next()
	var places []uint64
	for i := uint64(0); ok && i < count; i++ {
		var at uint64
		if at, ok = next(); ok {
			places = append(places, at)
		}
	}
	var l []api.Entry
	for _, at := range places {
		name, err := r.ReadString(0)
		ok = ok && err == nil && len(name) > 1 && at <= math.MaxInt64
		if ok {
			l = append(l, api.Entry{Name: name[:len(name)-1], At: int(at)})
		}
	}
	rest, _ := io.ReadAll(r)
	if !ok || bytes.Count(rest, []byte{0}) != len(rest) {
		return nil, false
	}
	return l, true
}

// modelPairs is 11.4's second point by other means.
func modelPairs(data string) ([]api.Entry, bool) {
	r := strings.NewReader(data)
	counted := func() ([]byte, bool) {
		var n uint32
		if binary.Read(r, binary.LittleEndian, &n) != nil || int64(n) > int64(r.Len()) {
			return nil, false
		}
		b := make([]byte, n)
		_, err := io.ReadFull(r, b)
		return b, err == nil
	}
	pairs, ok := counted()
	if !ok || len(pairs)%8 != 0 {
		return nil, false
	}
	strs, ok := counted()
	if !ok {
		return nil, false
	}
	var l []api.Entry
	for pair := range slices.Chunk(pairs, 8) {
		place, at := binary.LittleEndian.Uint32(pair), binary.LittleEndian.Uint32(pair[4:])
		if int(place) >= len(strs) {
			return nil, false
		}
		pieces := bytes.Split(strs[place:], []byte{0})
		if len(pieces) < 2 || len(pieces[0]) == 0 {
			return nil, false
		}
		l = append(l, api.Entry{Name: string(pieces[0]), At: int(at)})
	}
	return l, true
}

func modelDecode(form api.Form, data string) ([]api.Entry, api.Errno) {
	var l []api.Entry
	var ok bool
	switch form {
	case 1, 2:
		l, ok = modelRow(form, data)
	case 3:
		l, ok = modelPairs(data)
	default:
		return nil, api.ErrForm
	}
	if !ok {
		return nil, api.ErrIndex
	}
	return l, api.OK
}

// pick is one of a list, by chance.
func pick[T any](r *rand.Rand, of ...T) T { return of[r.Intn(len(of))] }

// chanceForm is a form, and seldom none.
func chanceForm(r *rand.Rand) api.Form {
	if r.Intn(50) == 0 {
		return pick(r, noForms()...)
	}
	return pick(r, forms()...)
}

// chanceList is a list that Encode takes, or nearly one.
func chanceList(r *rand.Rand) []api.Entry {
	var l []api.Entry
	for range r.Intn(8) {
		x := api.Entry{Name: pick(r, "f", "go", "main", "\xff", "a b", "\n", "f\x01", "printf"), At: pick(r, 0, 8, 300, 1<<31, 1<<32-1, r.Intn(1<<32))}
		switch r.Intn(60) {
		case 0:
			x.Name = pick(r, "", "\x00", "f\x00", "\x00f", "f\x00g")
		case 1, 2:
			x.At = pick(r, -1, math.MinInt, 1<<32, 1<<32+1, math.MaxInt)
		}
		l = append(l, x)
	}
	return l
}

// wantSeen wants that chance has led to each of the answers often enough to tell something, and to no other.
func wantSeen(t *testing.T, seen map[api.Errno]int, all ...api.Errno) {
	t.Helper()
	for _, e := range all {
		if seen[e] < 500 {
			t.Errorf("answer %d came up %d times", e, seen[e])
		}
		delete(seen, e)
	}
	if len(seen) > 0 {
		t.Errorf("answers of no promise: %v", seen)
	}
}

// 11.1 to 11.3, 11.6: chance lists against the chapter's words.
func TestChanceLists(t *testing.T) {
	r := rand.New(rand.NewSource(113))
	seen := map[api.Errno]int{}
	for range 60000 {
		form, l := chanceForm(r), chanceList(r)
		b, e := modelEncode(form, l)
		seen[e]++
		if e == api.OK {
			wantEncode(t, form, l, b)
			continue
		}
		wantNoEncode(t, form, l, e)
		if e != api.ErrFar {
			wantSize(t, form, namesOf(l), 0, e)
		}
	}
	wantSeen(t, seen, api.OK, api.ErrForm, api.ErrName, api.ErrFar)
}

// spoil changes a byte, takes some away or puts some in, by chance.
func spoil(r *rand.Rand, b string) string {
	at := 0
	if len(b) > 0 {
		at = r.Intn(len(b))
	}
	with := pick(r, "\x00", "\x01", "\x08", "\x10", "\xff", "f", "\x80", b[at:min(at+1, len(b))])
	switch r.Intn(5) {
	case 0:
		return b[:at]
	case 1:
		return b[:at] + with + b[at:]
	case 2:
		return b[:at] + b[min(at+1, len(b)):]
	case 3:
		return b + pick(r, "\x00", "\x00\x00\x00", "x", "\x00x")
	}
	return b[:at] + with + b[min(at+1, len(b)):]
}

// chancePairs is an index of pairs whose names' places are anywhere, most of them good.
func chancePairs(r *rand.Rand) string {
	strs := pick(r, "main\x00go\x00f\x00", "f\x00", "ab\x00\x00cd\x00ef", "", "\x00", "abcdefgh\x00")
	n := r.Intn(4)
	numbers := []uint32{uint32(8 * n)}
	for range n {
		numbers = append(numbers, uint32(r.Intn(len(strs)+2)), r.Uint32())
	}
	return little4(append(numbers, uint32(len(strs)))...) + strs + pick(r, "", "", "\x00", "x\x00")
}

// chanceData is an index, or nearly one, or no such thing.
func chanceData(r *rand.Rand) (api.Form, string) {
	form := chanceForm(r)
	b, e := modelEncode(form, chanceList(r))
	if e != api.OK || r.Intn(20) == 0 {
		other := make([]byte, r.Intn(30))
		for i := range other {
			other[i] = pick[byte](r, 0, 0, 0, 1, 8, 'f', 255)
		}
		b = string(other)
	}
	if form == api.IndexBSD && r.Intn(2) == 0 {
		b = chancePairs(r)
	}
	for range r.Intn(3) {
		b = spoil(r, b)
	}
	return form, b
}

// 11.4, 11.5: chance data against the chapter's words.
func TestChanceData(t *testing.T) {
	r := rand.New(rand.NewSource(114))
	seen := map[api.Errno]int{}
	taken := map[api.Form]int{}
	for range 100000 {
		form, b := chanceData(r)
		l, e := modelDecode(form, b)
		seen[e]++
		if e != api.OK {
			wantNoDecode(t, form, b, e)
			continue
		}
		wantDecode(t, form, b, l)
		if len(l) > 0 {
			taken[form]++
		}
	}
	wantSeen(t, seen, api.OK, api.ErrForm, api.ErrIndex)
	for _, form := range forms() {
		if taken[form] < 500 {
			t.Errorf("an index of form %d came up %d times", form, taken[form])
		}
	}
}
