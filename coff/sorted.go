package coff

import (
	"cmp"
	"slices"
	"strings"

	"shelf/api"
)

// isOrdered: may each element of the list stand ahead of the next one?
func isOrdered[T any](list []T, mayGoAhead func(a, b T) bool) bool {
	for i := range len(list) - 1 {
		if !mayGoAhead(list[i], list[i+1]) {
			return false
		}
	}
	return true
}

// find is where the first element of a list in order stands that is what is looked for. compare answers below 0 of the elements ahead of that, and above 0 of those behind it.
func find[T any](list []T, compare func(T) int) (int, bool) {
	low, high := 0, len(list)
	for low < high {
		middle := low + (high-low)/2
		if compare(list[middle]) < 0 {
			low = middle + 1
		} else {
			high = middle
		}
	}
	return low, low < len(list) && compare(list[low]) == 0
}

// rise: is each place above the one ahead of it?
func rise(at []int) bool {
	return isOrdered(at, func(a, b int) bool { return a < b })
}

// numberOf is which of the places this one is, counted from 0.
func numberOf(at []int, place int) (int, bool) {
	return find(at, func(p int) int { return cmp.Compare(p, place) })
}

// compare tells which of two pairs goes ahead.
func compare(a, b api.Entry) int {
	return cmp.Or(strings.Compare(a.Name, b.Name), cmp.Compare(a.At, b.At))
}

// sorted are the pairs in order, as a list of its own.
func sorted(list []api.Entry) []api.Entry {
	inOrder := slices.Clone(list)
	slices.SortFunc(inOrder, compare)
	return inOrder
}
