package order

// numbers are numbers of which package heap finds the least.
type numbers []int

func (n numbers) Len() int           { return len(n) }
func (n numbers) Less(i, k int) bool { return n[i] < n[k] }
func (n numbers) Swap(i, k int)      { n[i], n[k] = n[k], n[i] }

// Push puts a number at the end.
func (n *numbers) Push(x any) { *n = append(*n, x.(int)) }

// Pop takes the number at the end away.
func (n *numbers) Pop() any {
	end := len(*n) - 1
	x := (*n)[end]
	*n = (*n)[:end]
	return x
}
