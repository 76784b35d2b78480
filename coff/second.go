package coff

import (
	"strings"

	"shelf/api"
	"shelf/num"
)

const (
	mostPlaces = 65535 // a pair's number can't reach one more

	countSize  = 4 // bytes of how many places or pairs there are
	placeSize  = 4
	numberSize = 2 // bytes of which place a pair means

	end = '\x00' // stands behind every name
)

func isGood(name string) bool { return name != "" && strings.IndexByte(name, end) < 0 }

// refusePlaces is why a second linker member can't have these places.
func refusePlaces(at []int) api.Errno {
	switch {
	case len(at) == 0:
		return api.OK
	case at[0] < 0, !rise(at):
		return api.ErrRange
	case len(at) > mostPlaces, at[len(at)-1] >= api.Wide32:
		return api.ErrFar
	}
	return api.OK
}

// refusePairs is why the first pair is refused that can't stand beside these places.
func refusePairs(at []int, list []api.Entry) api.Errno {
	for _, pair := range list {
		if !isGood(pair.Name) {
			return api.ErrName
		}
		if _, found := numberOf(at, pair.At); !found {
			return api.ErrIndex
		}
	}
	return api.OK
}

// lengthOf is how many bytes a second linker member of so many places and of pairs with these names has.
func lengthOf(places int, names []string) int {
	length := countSize + places*placeSize + countSize + len(names)*numberSize
	for _, name := range names {
		length += len(name) + 1
	}
	return length
}

// writeSecond writes a second linker member of pairs in order.
func writeSecond(at []int, list []api.Entry) string {
	var out strings.Builder
	put(&out, len(at), countSize)
	for _, place := range at {
		put(&out, place, placeSize)
	}
	put(&out, len(list), countSize)
	for _, pair := range list {
		number, _ := numberOf(at, pair.At)
		put(&out, number+1, numberSize)
	}
	for _, pair := range list {
		out.WriteString(pair.Name)
		out.WriteByte(end)
	}
	return out.String()
}

// put writes a number that has room in so many bytes.
func put(out *strings.Builder, v, size int) {
	bytes, _ := num.Store(uint64(v), size, api.Little)
	out.WriteString(bytes)
}

// readSecond reads a second linker member, whatever the order of its pairs.
func readSecond(data string) ([]int, []api.Entry, bool) {
	at, rest, ok := cutCounted(data, placeSize)
	if !ok || !rise(at) {
		return nil, nil, false
	}
	numbers, names, ok := cutCounted(rest, numberSize)
	if !ok {
		return nil, nil, false
	}
	list := make([]api.Entry, len(numbers))
	for i, number := range numbers {
		name, behind, ended := strings.Cut(names, string(end))
		if number < 1 || number > len(at) || !ended || name == "" {
			return nil, nil, false
		}
		list[i] = api.Entry{Name: name, At: at[number-1]}
		names = behind
	}
	return at, list, names == ""
}

// cutCounted cuts numbers of so many bytes off, which a count ahead of them counts.
func cutCounted(data string, size int) ([]int, string, bool) {
	count, rest, ok := cutNumber(data, countSize)
	if !ok || count > len(rest)/size { // a product with a great count would tell of bytes that are not there
		return nil, "", false
	}
	list := make([]int, count)
	for i := range list {
		list[i], rest, _ = cutNumber(rest, size)
	}
	return list, rest, true
}

// cutNumber cuts a number of so many bytes off, if data hold it whole.
func cutNumber(data string, size int) (int, string, bool) {
	v, e := num.Load(data, 0, size, api.Little)
	if e != api.OK {
		return 0, "", false
	}
	return int(v), data[size:], true
}
