package ops

// without is a new list of what stands at other numbers than these, each of which is told once.
func without[T any](list []T, numbers []int) []T {
	out := make([]bool, len(list))
	for _, number := range numbers {
		out[number] = true
	}
	rest := make([]T, 0, len(list)-len(numbers))
	for number, x := range list {
		if !out[number] {
			rest = append(rest, x)
		}
	}
	return rest
}

// only is a new list of what stands at these numbers, in their order.
func only[T any](list []T, numbers []int) []T {
	picked := make([]T, len(numbers))
	for i, number := range numbers {
		picked[i] = list[number]
	}
	return picked
}

// withBlock is a new list with a block put in behind so many of the list's first ones.
func withBlock[T any](list []T, place int, block []T) []T {
	joined := make([]T, len(list)+len(block))
	copy(joined, list[:place])
	copy(joined[place:], block)
	copy(joined[place+len(block):], list[place:])
	return joined
}
