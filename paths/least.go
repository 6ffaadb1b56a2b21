package paths

import (
	"cmp"
	"slices"

	"weftway/api"
)

// leastOf tells where those stand that no other one begins, of the same ones the first, by where they stand.
func leastOf(l []api.Place) []int {
	var least []int
	last := api.Place{}
	for _, i := range inOrder(l) {
		if len(least) == 0 || !Begins(last, l[i]) {
			least = append(least, i)
			last = l[i]
		}
	}
	slices.Sort(least)
	return least
}

// inOrder tells where the places stand, in an order in which all that one begins come right behind it, so that only the last one of those that stay need be asked.
func inOrder(l []api.Place) []int {
	var order []int
	for i := range l {
		order = append(order, i)
	}
	slices.SortFunc(order, func(i, j int) int {
		return cmp.Or(compared(l[i], l[j]), cmp.Compare(i, j))
	})
	return order
}

// compared holds places against each other by their variables, then step by step.
func compared(a, b api.Place) int {
	return cmp.Or(cmp.Compare(a.Name, b.Name), slices.Compare(a.Path, b.Path))
}
