package index

import (
	"math"
	"strings"

	"shelf/api"
)

// rowLength is the length of an index whose places stand in a row: ahead of them stands their count, behind them the names.
func (c codec) rowLength(b bulk) int { return c.width*(1+b.count) + b.text }

func (c codec) rowFits(b bulk) bool { return c.holds(b.count) }

func (c codec) writeRow(out *strings.Builder, list []api.Entry, b bulk) {
	c.store(out, b.count)
	for _, entry := range list {
		c.store(out, entry.At)
	}
}

func (c codec) readRow(data string) ([]api.Entry, bool) {
	count, ok := c.load(data, 0)
	if !ok {
		return nil, false
	}
	row := data[c.width:]
	// The room is counted in places: as many bytes as a great count asks for are no number.
	if count > uint64(len(row)/c.width) {
		return nil, false
	}
	names := row[int(count)*c.width:]
	list := make([]api.Entry, count)
	for i := range list {
		at, _ := c.load(row, i*c.width)
		name, behind, found := strings.Cut(names, string(end))
		if at > math.MaxInt || !found || name == "" {
			return nil, false
		}
		list[i] = api.Entry{Name: name, At: int(at)}
		names = behind
	}
	if strings.Trim(names, string(end)) != "" {
		return nil, false
	}
	return list, true
}
