package order

import "shelf/api"

// definersOf leads from each name that is defined to the numbers of the nodes that define it, in order.
func definersOf(list []api.Node) map[string][]int {
	definers := map[string][]int{}
	for number, n := range list {
		for _, name := range distinctOf(n.Defines) {
			definers[name] = append(definers[name], number)
		}
	}
	return definers
}
