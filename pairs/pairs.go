// Package pairs: lists of pairs of whatever two types, for the layers that gather such lists.
package pairs

// Pair is two values that belong together.
type Pair[L, R any] struct {
	Left  L
	Right R
}

// List is pairs in the order in which they were added.
type List[L, R any] []Pair[L, R]

// Add puts a pair behind those that are there.
func (l *List[L, R]) Add(left L, right R) {
	*l = append(*l, Pair[L, R]{left, right})
}

// Lefts are the pairs' left values in order, as a list of its own.
func (l List[L, R]) Lefts() []L {
	lefts := make([]L, len(l))
	for i, p := range l {
		lefts[i] = p.Left
	}
	return lefts
}

// Numbered are the values that each element of a list has, each with the element's number, in order.
func Numbered[T, L any](list []T, of func(T) []L) List[L, int] {
	var all List[L, int]
	for number, element := range list {
		for _, value := range of(element) {
			all.Add(value, number)
		}
	}
	return all
}
