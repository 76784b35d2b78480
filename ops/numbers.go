package ops

import (
	"slices"

	"shelf/api"
)

// noMember stands where a number would if there were one more member of a name.
const noMember = -1

// numbersByName leads from each name to the number of its first member, and from each member's number to that of the next one of its name. The list is gone through from behind, so that what is first is known at once.
func numbersByName(list []api.Member) (map[string]int, []int) {
	first := make(map[string]int, len(list))
	next := make([]int, len(list))
	for number := len(list) - 1; number >= 0; number-- {
		name := list[number].Name
		next[number] = noMember
		if behind, ok := first[name]; ok {
			next[number] = behind
		}
		first[name] = number
	}
	return first, next
}

// placeOf is how many of the list's members stand ahead of a block at this position; not ok: its anchor is not in the list.
func placeOf(list []api.Member, pos api.Pos) (int, bool) {
	if pos.Where != api.After && pos.Where != api.Before {
		return len(list), true
	}
	anchor := slices.IndexFunc(list, func(m api.Member) bool { return m.Name == pos.Anchor })
	if anchor < 0 {
		return 0, false
	}
	if pos.Where == api.After {
		return anchor + 1, true
	}
	return anchor, true
}
