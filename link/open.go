package link

import (
	"slices"

	"shelf/api"
	"shelf/index"
	"shelf/syms"
)

// membersOf is a library with what the members say, and without the entries of the index.
func membersOf(p api.Parsed) api.Library {
	lib := api.Library{
		At:      slices.Clone(p.At),
		Names:   make([]string, len(p.Members)),
		Defines: make([][]string, len(p.Members)),
		Needs:   make([][]string, len(p.Members)),
	}
	for i, m := range p.Members {
		lib.Names[i] = m.Name
		lib.Defines[i] = syms.Globals(m.Data)
		lib.Needs[i] = syms.Needs(m.Data)
	}
	return lib
}

// entriesOf are the pairs of the archive's index. One that has no index may define nothing, as nobody would find it.
func entriesOf(p api.Parsed, defines [][]string) ([]api.Entry, api.Errno) {
	if p.Form == api.NoIndex {
		if slices.ContainsFunc(defines, isSome) {
			return nil, api.ErrNoIndex
		}
		return nil, api.OK
	}
	entries, e := index.Decode(p.Form, p.Index)
	if e != api.OK {
		return nil, e
	}
	members := numbersByPlace(p.At)
	for _, entry := range entries {
		if _, there := members[entry.At]; !there {
			return nil, api.ErrIndex
		}
	}
	return entries, api.OK
}

func isSome(names []string) bool { return len(names) > 0 }

// numbersByPlace leads from each place to the number of the first member there. The list is gone through from behind, so that the first one is the last to be put down.
func numbersByPlace(at []int) map[int]int {
	numbers := make(map[int]int, len(at))
	for number := len(at) - 1; number >= 0; number-- {
		numbers[at[number]] = number
	}
	return numbers
}
