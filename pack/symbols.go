package pack

import (
	"shelf/api"
	"shelf/pairs"
)

// symbolsOf gathers the names that go into an index, each with the number of its unit: the unit's place is not known before everything is laid out.
func symbolsOf(list []api.Unit) pairs.List[string, int] {
	return pairs.Numbered(list, func(u api.Unit) []string { return u.Syms })
}

func specsOf(list []api.Unit) []api.Spec {
	specs := make([]api.Spec, len(list))
	for i, u := range list {
		specs[i] = u.Spec
	}
	return specs
}

// written are the members as an archive of this kind holds them: a thin one leaves the data in the files.
func written(kind api.Kind, list []api.Member) []api.Member {
	if kind != api.Thin {
		return list
	}
	members := make([]api.Member, len(list))
	for i, m := range list {
		m.Data = ""
		members[i] = m
	}
	return members
}
