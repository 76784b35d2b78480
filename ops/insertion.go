package ops

import "shelf/api"

// insertion is a list that members are put into one by one. The new ones stand behind all others until their block gets its place: as no name is among both, that place doesn't say which member is the first of its name.
type insertion struct {
	members []api.Member
	first   map[string]int // from each name to the number of its first member
}

func newInsertion(list []api.Member) *insertion {
	first, _ := numbersByName(list)
	members := make([]api.Member, len(list))
	copy(members, list)
	return &insertion{members: members, first: first}
}

// add puts one member in and answers what was done with it.
func (s *insertion) add(x api.Member, update bool) byte {
	met, ok := s.first[x.Name]
	if !ok {
		s.first[x.Name] = len(s.members)
		s.members = append(s.members, x)
		return 'a'
	}
	if update && x.Date <= s.members[met].Date {
		return 'u'
	}
	s.members[met] = x
	return 'r'
}
