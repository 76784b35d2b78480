package link

import (
	"slices"

	"shelf/api"
)

// progress is a link on its way: lists that keep the order, and sets that tell what is in them.
type progress struct {
	defined   []string
	wanted    []string // those that have left are in it still, until the link is told
	pulled    []api.Place
	isDefined set[string]
	isWanted  set[string]
	isPulled  set[api.Place]
}

func begin(st api.Link) *progress {
	return &progress{
		defined:   slices.Clone(st.Defined),
		wanted:    slices.Clone(st.Wanted),
		pulled:    slices.Clone(st.Pulled),
		isDefined: setOf(st.Defined),
		isWanted:  setOf(st.Wanted),
		isPulled:  setOf(st.Pulled),
	}
}

// round searches each library in its turn. Has it pulled anything in?
func (p *progress) round(list []catalog) bool {
	before := len(p.pulled)
	for _, c := range list {
		p.search(c)
	}
	return len(p.pulled) > before
}

// search makes passes until one has pulled nothing in.
func (p *progress) search(c catalog) {
	for p.pass(c) {
	}
}

// pass asks each entry one time, each with what those ahead of it have pulled in. Has it pulled anything in?
func (p *progress) pass(c catalog) bool {
	before := len(p.pulled)
entries:
	for _, entry := range c.Entries {
		place := api.Place{Lib: c.number, At: entry.At}
		switch {
		case !p.isWanted.has(entry.Name):
			continue entries // nobody asks for it
		case !c.hasMember(entry.At), p.isPulled.has(place):
			continue entries // nothing is there to be pulled in, or nothing more
		}
		member := c.members[entry.At]
		p.pull(place, namesOf(c.Defines, member), namesOf(c.Needs, member))
	}
	return len(p.pulled) > before
}

// pull takes in the member at a place. What it needs is asked behind what it defines, so that no member wants its own names.
func (p *progress) pull(place api.Place, defines, needs []string) {
	p.pulled = append(p.pulled, place)
	p.isPulled.add(place)
	for _, name := range defines {
		p.define(name)
	}
	for _, name := range needs {
		p.want(name)
	}
}

func (p *progress) define(name string) {
	delete(p.isWanted, name)
	if p.isDefined.has(name) {
		return
	}
	p.isDefined.add(name)
	p.defined = append(p.defined, name)
}

func (p *progress) want(name string) {
	if p.isDefined.has(name) || p.isWanted.has(name) {
		return
	}
	p.isWanted.add(name)
	p.wanted = append(p.wanted, name)
}

// link is how far it has come. A name that has left is defined and so never wanted again: what the set has of the list is what stayed.
func (p *progress) link() api.Link {
	var wanted []string
	for _, name := range p.wanted {
		if p.isWanted.has(name) {
			wanted = append(wanted, name)
		}
	}
	return api.Link{Defined: p.defined, Wanted: wanted, Pulled: p.pulled}
}
