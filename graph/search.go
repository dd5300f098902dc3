package graph

import "slices"

// walk follows edges and finds each node once.
type walk struct {
	edges [][]int
	seen  []bool
	found []int // each node behind all nodes that were first reached from it
}

func along(edges [][]int) *walk { return &walk{edges: edges, seen: make([]bool, len(edges))} }

// from finds a node and all that it leads to.
func (w *walk) from(x int) {
	if w.seen[x] {
		return
	}
	w.seen[x] = true
	for _, y := range w.edges[x] {
		w.from(y)
	}
	w.found = append(w.found, x)
}

// reached returns the IDs of the nodes to which one or more edges lead from a node, ascending.
func (g network) reached(id string, edges [][]int) []string {
	x, ok := g.numbers[id]
	if !ok {
		return nil
	}
	w := along(edges)
	for _, y := range edges[x] {
		w.from(y)
	}
	slices.Sort(w.found)
	return g.named(w.found)
}

// firstOnCycle returns the first node that is on a cycle, if there is one.
func (g network) firstOnCycle() (int, bool) {
	var onCycles []int
	for _, group := range g.groups() {
		if len(group) > 1 || slices.Contains(g.needs[group[0]], group[0]) {
			onCycles = append(onCycles, group...)
		}
	}
	if len(onCycles) == 0 {
		return 0, false
	}
	return slices.Min(onCycles), true
}

// groups divides the nodes: two nodes are in one group if each of them depends on the other one.
func (g network) groups() [][]int {
	down := along(g.needs)
	for x := range g.needs {
		down.from(x)
	}
	// Of the nodes without a group, only those of its own group depend on the one that was found last.
	up := along(g.users)
	var groups [][]int
	for _, x := range slices.Backward(down.found) {
		up.found = nil
		up.from(x)
		if len(up.found) > 0 {
			groups = append(groups, up.found)
		}
	}
	return groups
}

// cycleFrom returns the first of the shortest cycles that begin with a node, which must be on one.
func (g network) cycleFrom(start int) []int {
	previous := make([]int, len(g.ids)) // the node before it in the first of the shortest lists that lead to a node
	seen := make([]bool, len(g.ids))
	// As needs are ascending, nodes are reached in the order of these lists; so the first one that leads back to the start is the cycle.
	queue := []int{start}
	last := start
search:
	for i := 0; i < len(queue); i++ {
		last = queue[i]
		for _, y := range g.needs[last] {
			if y == start {
				break search
			}
			if !seen[y] {
				seen[y], previous[y] = true, last
				queue = append(queue, y)
			}
		}
	}
	var cycle []int
	for x := last; x != start; x = previous[x] {
		cycle = append(cycle, x)
	}
	cycle = append(cycle, start)
	slices.Reverse(cycle)
	return cycle
}

// expensive returns the greatest cost of a path, and the first path with it, of a network with a topological order.
func (g network) expensive(order, costs []int) (int, []int) {
	totals := make([]int, len(costs)) // the greatest cost of a path that begins with a node
	for _, x := range slices.Backward(order) {
		for _, user := range g.users[x] {
			totals[x] = max(totals[x], totals[user])
		}
		totals[x] += costs[x]
	}
	greatest := slices.Max(totals)
	x := slices.Index(totals, greatest)
	path := []int{x}
	for rest := greatest - costs[x]; rest > 0; rest -= costs[x] {
		users := g.users[x]
		x = users[slices.IndexFunc(users, func(user int) bool { return totals[user] == rest })]
		path = append(path, x)
	}
	return greatest, path
}
