package order

// distinct is a list of things, none of them twice, and a map from what is in it.
type distinct[T comparable] struct {
	list  []T
	there map[T]struct{}
}

func newDistinct[T comparable]() *distinct[T] {
	return &distinct[T]{there: map[T]struct{}{}}
}

// add puts a thing behind the others, unless it is there.
func (d *distinct[T]) add(x T) {
	if _, there := d.there[x]; there {
		return
	}
	d.there[x] = struct{}{}
	d.list = append(d.list, x)
}

// distinctOf is what a list has, each thing where it stands first.
func distinctOf[T comparable](list []T) []T {
	d := newDistinct[T]()
	for _, x := range list {
		d.add(x)
	}
	return d.list
}
