package link

// set is a map from what is in it.
type set[T comparable] map[T]struct{}

func setOf[T comparable](list []T) set[T] {
	s := make(set[T], len(list))
	for _, x := range list {
		s.add(x)
	}
	return s
}

func (s set[T]) has(x T) bool {
	_, there := s[x]
	return there
}

func (s set[T]) add(x T) { s[x] = struct{}{} }
