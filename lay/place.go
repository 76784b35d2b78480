package lay

import (
	"shelf/api"
	"shelf/names"
	"shelf/part"
)

// noIndex is the length of an index that is not there.
const noIndex = -1

// specsOf is what Plan is told of members.
func specsOf(members []api.Member) []api.Spec {
	list := make([]api.Spec, len(members))
	for i, m := range members {
		list[i] = api.Spec{Name: m.Name, Size: m.Size}
	}
	return list
}

// encode writes the members' names. The table is measured before it is made: many members may share one long name in memory, and their entries would not find room there.
func encode(kind api.Kind, list []api.Spec) (api.Names, api.Errno) {
	all := make([]string, len(list))
	for i, s := range list {
		if !names.Valid(s.Name) {
			return api.Names{}, api.ErrName
		}
		all[i] = s.Name
	}
	if isTableTooLong(kind, all) {
		return api.Names{}, api.ErrSize
	}
	return names.Encode(kind, all)
}

// isTableTooLong asks for each name's entry by itself, and no further than needed.
func isTableTooLong(kind api.Kind, all []string) bool {
	length := 0
	for i := range all {
		n, _ := names.Encode(kind, all[i:i+1])
		length += len(n.Table)
		if length > api.MaxTable {
			return true
		}
	}
	return false
}

// place puts the parts one behind the other.
func place(kind api.Kind, list []api.Spec, index int, n api.Names) api.Layout {
	l := api.Layout{At: make([]int, len(list)), Table: len(n.Table), Total: len(api.MagicRegular)}
	if index != noIndex {
		l.Total += part.Room(index)
	}
	if l.Table > 0 {
		l.Total += part.Room(l.Table)
	}
	for i, s := range list {
		l.At[i] = l.Total
		if kind == api.Thin {
			l.Total += part.Room(0)
		} else {
			l.Total += part.Room(len(n.Inline[i]) + s.Size)
		}
	}
	return l
}
