package graph

import (
	"slices"

	"pipeline/api"
	"pipeline/ident"
)

// network is a sound graph. Its nodes are numbered in the natural order of their IDs, so that numbers are compared instead of IDs.
type network struct {
	numbers map[string]int
	ids     []string
	places  []int   // the index of each node in the list that was given
	needs   [][]int // what each node needs, ascending
	users   [][]int // what needs each node, ascending
}

// networkOf returns the network of nodes, or the first error of Valid other than ErrCycle.
func networkOf(nodes []api.Node) (network, api.Errno) {
	ids, err := idsOf(nodes)
	if err != api.OK {
		return network{}, err
	}
	g := network{numbers: map[string]int{}, ids: ids, places: make([]int, len(ids)), needs: make([][]int, len(ids))}
	for x, id := range ids {
		g.numbers[id] = x
	}
	for place, node := range nodes {
		needs, err := g.numbersOf(node.Needs)
		if err != api.OK {
			return network{}, err
		}
		x := g.numbers[node.ID]
		g.places[x], g.needs[x] = place, needs
	}
	g.users = reversed(g.needs)
	return g, api.OK
}

// idsOf returns the IDs of nodes in natural order.
func idsOf(nodes []api.Node) ([]string, api.Errno) {
	if len(nodes) > api.MaxJobs {
		return nil, api.ErrLimit
	}
	seen := map[string]bool{}
	var ids []string
	for _, node := range nodes {
		if _, err := ident.Parts(node.ID); err != api.OK {
			return nil, api.ErrInvalid
		}
		if seen[node.ID] {
			return nil, api.ErrExists
		}
		seen[node.ID] = true
		ids = append(ids, node.ID)
	}
	return ident.Sorted(ids), api.OK
}

// numbersOf returns the numbers of different nodes, ascending.
func (g network) numbersOf(ids []string) ([]int, api.Errno) {
	seen := make([]bool, len(g.ids))
	var numbers []int
	for _, id := range ids {
		x, ok := g.numbers[id]
		switch {
		case !ok:
			return nil, api.ErrNotFound
		case seen[x]:
			return nil, api.ErrExists
		}
		seen[x] = true
		numbers = append(numbers, x)
	}
	slices.Sort(numbers)
	return numbers, api.OK
}

// reversed returns the same edges in the other direction.
func reversed(edges [][]int) [][]int {
	back := make([][]int, len(edges))
	for x, ends := range edges {
		for _, y := range ends {
			back[y] = append(back[y], x)
		}
	}
	return back
}

// named returns the IDs of nodes.
func (g network) named(numbers []int) []string {
	ids := make([]string, len(numbers))
	for i, x := range numbers {
		ids[i] = g.ids[x]
	}
	return ids
}

// sorted returns the network of nodes and its topological order, or the error of Valid.
func sorted(nodes []api.Node) (network, []int, api.Errno) {
	g, err := networkOf(nodes)
	if err != api.OK {
		return network{}, nil, err
	}
	order := g.order()
	if len(order) < len(nodes) {
		return network{}, nil, api.ErrCycle
	}
	return g, order, api.OK
}

const listed = -1

// order returns the nodes in topological order, without those that are on a cycle or depend on one.
func (g network) order() []int {
	missing := make([]int, len(g.ids)) // how many of its needs were not listed, or that it was listed itself
	for x, needs := range g.needs {
		missing[x] = len(needs)
	}
	var order []int
	for x := slices.Index(missing, 0); x >= 0; x = slices.Index(missing, 0) {
		missing[x] = listed
		order = append(order, x)
		for _, user := range g.users[x] {
			missing[user]--
		}
	}
	return order
}
