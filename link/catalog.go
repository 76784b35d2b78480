package link

import "shelf/api"

// catalog is a library as it is searched.
type catalog struct {
	api.Library
	number  int
	members map[int]int // from each place to the number of the first member there
}

func catalogOf(lib api.Library, number int) catalog {
	return catalog{Library: lib, number: number, members: numbersByPlace(lib.At)}
}

// catalogsOf numbers libraries in their order.
func catalogsOf(libs []api.Library) []catalog {
	list := make([]catalog, len(libs))
	for number, lib := range libs {
		list[number] = catalogOf(lib, number)
	}
	return list
}

// hasMember: is there a member at this place?
func (c catalog) hasMember(at int) bool {
	_, there := c.members[at]
	return there
}

// namesOf are a member's names in a list that may be too short to have any for it.
func namesOf(lists [][]string, member int) []string {
	if member >= len(lists) {
		return nil
	}
	return lists[member]
}
