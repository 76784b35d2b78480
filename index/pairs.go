package index

import (
	"cmp"
	"slices"
	"strings"

	"shelf/api"
)

// pairsLength is the length of an index of pairs: ahead of these stands their length, behind them that of the strings, and the strings.
func (c codec) pairsLength(b bulk) int { return c.width*(2+2*b.count) + b.text }

func (c codec) pairsFit(b bulk) bool { return c.holds(2*c.width*b.count) && c.holds(b.text) }

func (c codec) writePairs(out *strings.Builder, list []api.Entry, b bulk) {
	c.store(out, 2*c.width*b.count)
	begin := 0
	for _, entry := range list {
		c.store(out, begin)
		c.store(out, entry.At)
		begin += len(entry.Name) + 1
	}
	c.store(out, b.text)
}

func (c codec) readPairs(data string) ([]api.Entry, bool) {
	pairs, rest, ok := c.cutCounted(data)
	if !ok || len(pairs)%(2*c.width) != 0 {
		return nil, false
	}
	strs, _, ok := c.cutCounted(rest)
	if !ok {
		return nil, false
	}
	list := make([]api.Entry, len(pairs)/(2*c.width))
	begins := make([]int, len(list))
	for i := range list {
		begin, _ := c.load(pairs, 2*i*c.width)
		at, _ := c.load(pairs, (2*i+1)*c.width)
		begins[i] = int(begin)
		list[i].At = int(at)
	}
	if !nameAll(list, begins, strs) {
		return nil, false
	}
	return list, true
}

// cutCounted cuts the bytes off that a number ahead of them counts.
func (c codec) cutCounted(data string) (counted, rest string, ok bool) {
	count, ok := c.load(data, 0)
	if !ok || count > uint64(len(data)-c.width) {
		return "", "", false
	}
	stop := c.width + int(count)
	return data[c.width:stop], data[stop:], true
}

// nameAll gives each entry the name that begins at its place in the strings, if there is one for each. The places are gone through upwards, so that no byte of the strings is looked at twice for its end, however many names run into one.
func nameAll(list []api.Entry, begins []int, strs string) bool {
	upwards := make([]int, len(list))
	for i := range upwards {
		upwards[i] = i
	}
	slices.SortFunc(upwards, func(i, j int) int { return cmp.Compare(begins[i], begins[j]) })
	stop := -1
	for _, i := range upwards {
		begin := begins[i]
		if begin >= len(strs) {
			return false
		}
		if begin > stop {
			length := strings.IndexByte(strs[begin:], end)
			if length < 0 {
				return false
			}
			stop = begin + length
		}
		if begin == stop {
			return false
		}
		list[i].Name = strs[begin:stop]
	}
	return true
}
