package graph_test

import (
	"cmp"
	"fmt"
	"math/rand/v2"
	"slices"
	"testing"

	"pipeline/api"
	"pipeline/graph"
	"pipeline/ident"
)

// names are IDs whose natural order is neither that of their bytes nor that of this list.
var names = []string{"t10", "a/t9", "t9", "a", "t9/x", "a/t10", "t01", "t1"}

// byID returns the needs of nodes by their IDs.
func byID(all []api.Node) map[string][]string {
	needs := map[string][]string{}
	for _, node := range all {
		needs[node.ID] = node.Needs
	}
	return needs
}

func compareLists(a, b []string) int { return slices.CompareFunc(a, b, ident.Compare) }

// cyclesFrom returns all cycles that begin with the first ID of a list and go on with the others.
func cyclesFrom(list []string, needs map[string][]string) [][]string {
	var cycles [][]string
	for _, id := range needs[list[len(list)-1]] {
		if id == list[0] {
			cycles = append(cycles, list)
		} else if !slices.Contains(list, id) {
			cycles = append(cycles, cyclesFrom(append(slices.Clone(list), id), needs)...)
		}
	}
	return cycles
}

// cycleByDefinition finds the cycle among all that there are.
func cycleByDefinition(all []api.Node) []string {
	var cycles [][]string
	for _, node := range all {
		cycles = append(cycles, cyclesFrom([]string{node.ID}, byID(all))...)
	}
	if len(cycles) == 0 {
		return nil
	}
	return slices.MinFunc(cycles, func(a, b []string) int {
		return cmp.Or(ident.Compare(a[0], b[0]), cmp.Compare(len(a), len(b)), compareLists(a, b))
	})
}

// aboveByDefinition returns all nodes on which one depends.
func aboveByDefinition(all []api.Node, id string) []string {
	needs := byID(all)
	above := slices.Clone(needs[id])
	for range all {
		for _, x := range slices.Clone(above) {
			above = ident.Sorted(append(above, needs[x]...))
		}
	}
	return ident.Sorted(above)
}

// readyByDefinition returns the nodes that are not done and all of whose needs are.
func readyByDefinition(all []api.Node, done []string) []string {
	var ready []string
	missing := func(id string) bool { return !slices.Contains(done, id) }
	for _, node := range all {
		if missing(node.ID) && !slices.ContainsFunc(node.Needs, missing) {
			ready = append(ready, node.ID)
		}
	}
	return ident.Sorted(ready)
}

// orderByDefinition lists what is ready first, again and again.
func orderByDefinition(all []api.Node) []string {
	var order []string
	for ready := readyByDefinition(all, nil); len(ready) > 0; ready = readyByDefinition(all, order) {
		order = append(order, ready[0])
	}
	return order
}

// pathsFrom returns the paths that begin with a list, of a graph without a cycle.
func pathsFrom(list []string, all []api.Node) [][]string {
	paths := [][]string{list}
	for _, node := range all {
		if slices.Contains(node.Needs, list[len(list)-1]) {
			paths = append(paths, pathsFrom(append(slices.Clone(list), node.ID), all)...)
		}
	}
	return paths
}

// criticalByDefinition finds the critical path among all that there are.
func criticalByDefinition(all []api.Node, cost []int) (int, []string) {
	var greatest int
	var first []string
	for _, node := range all {
		for _, path := range pathsFrom([]string{node.ID}, all) {
			total := 0
			for _, id := range path {
				total += cost[slices.IndexFunc(all, func(x api.Node) bool { return x.ID == id })]
			}
			if first == nil || total > greatest || total == greatest && compareLists(path, first) < 0 {
				greatest, first = total, path
			}
		}
	}
	return greatest, first
}

// expectGraph compares all functions with their definitions.
func expectGraph(t *testing.T, all []api.Node, done []string, cost []int) {
	t.Helper()
	cycle, order := cycleByDefinition(all), orderByDefinition(all)
	want := api.OK
	if len(cycle) > 0 {
		want, order = api.ErrCycle, nil
	}
	if err := graph.Valid(all); err != want {
		t.Errorf("Valid(%v) = %v, want %v", all, err, want)
	}
	if got := graph.Cycle(all); !slices.Equal(got, cycle) {
		t.Errorf("Cycle(%v) = %v, want %v", all, got, cycle)
	}
	if got, err := graph.Order(all); err != want || idsOf(got) != joined(order) {
		t.Errorf("Order(%v) = %s, %v, want %v", all, idsOf(got), err, order)
	}
	if got := graph.Ready(all, done); !slices.Equal(got, readyByDefinition(all, done)) {
		t.Errorf("Ready(%v, %v) = %v", all, done, got)
	}
	expectReached(t, all)
	n, path := graph.Critical(all, cost)
	if want == api.ErrCycle {
		if n != 0 || len(path) != 0 {
			t.Errorf("Critical(%v) = %d, %v", all, n, path)
		}
	} else if greatest, first := criticalByDefinition(all, cost); n != greatest || !slices.Equal(path, first) {
		t.Errorf("Critical(%v, %v) = %d, %v, want %d, %v", all, cost, n, path, greatest, first)
	}
}

// expectReached compares Above and Below with the definition.
func expectReached(t *testing.T, all []api.Node) {
	t.Helper()
	below := map[string][]string{}
	for _, node := range all {
		above := graph.Above(all, node.ID)
		if !slices.Equal(above, aboveByDefinition(all, node.ID)) {
			t.Errorf("Above(%v, %s) = %v", all, node.ID, above)
		}
		for _, id := range above {
			below[id] = append(below[id], node.ID)
		}
	}
	for _, node := range all {
		if got := graph.Below(all, node.ID); !slices.Equal(got, ident.Sorted(below[node.ID])) {
			t.Errorf("Below(%v, %s) = %v", all, node.ID, got)
		}
	}
}

// P18.1 to P18.8: all graphs of at most three nodes, with all that may be done.
func TestSmallGraphs(t *testing.T) {
	for count := range 4 {
		for edges := range 1 << (count * count) {
			all := make([]api.Node, count)
			for i := range all {
				all[i].ID = names[i]
				for j := range count {
					if edges>>(i*count+j)&1 == 1 {
						all[i].Needs = append(all[i].Needs, names[j])
					}
				}
			}
			for chosen := range 1 << count {
				var done []string
				cost := make([]int, count)
				for i := range count {
					if chosen>>i&1 == 1 {
						done = append(done, names[i])
						cost[i] = 1
					}
				}
				expectGraph(t, all, done, cost)
			}
		}
	}
}

// byChance returns a graph that is found by chance; without cycles, a node needs only those before it in the list.
func byChance(chance *rand.Rand, cyclic bool) []api.Node {
	all := make([]api.Node, 1+chance.IntN(len(names)))
	density := 1 + chance.IntN(5)
	for i, n := range chance.Perm(len(names))[:len(all)] {
		all[i].ID = names[n]
	}
	for i := range all {
		for _, j := range chance.Perm(len(all)) {
			if (cyclic || j < i) && chance.IntN(6) < density {
				all[i].Needs = append(all[i].Needs, all[j].ID)
			}
		}
	}
	return shuffled(chance, all)
}

func shuffled(chance *rand.Rand, all []api.Node) []api.Node {
	other := make([]api.Node, len(all))
	for i, j := range chance.Perm(len(all)) {
		other[i].ID = all[j].ID
		for _, k := range chance.Perm(len(all[j].Needs)) {
			other[i].Needs = append(other[i].Needs, all[j].Needs[k])
		}
	}
	return other
}

// P18.1 to P18.8
func TestGraphsByChance(t *testing.T) {
	chance := rand.New(rand.NewPCG(18, 1))
	for round := range 3000 {
		all := byChance(chance, round%4 == 0)
		cost := make([]int, len(all))
		var done []string
		for i := range cost {
			cost[i] = chance.IntN(1 + round%5)
			if chance.IntN(2) == 0 {
				done = append(done, names[chance.IntN(len(names))])
			}
		}
		expectGraph(t, all, done, cost)
	}
}

// sparse returns a graph in which a node needs one or two others.
func sparse(chance *rand.Rand) []api.Node {
	all := make([]api.Node, 12)
	for i := range all {
		all[i].ID = fmt.Sprint("n", (i*7)%len(all))
	}
	for i := range all {
		for range 1 + chance.IntN(2) {
			if id := all[chance.IntN(len(all))].ID; !slices.Contains(all[i].Needs, id) && id != all[i].ID {
				all[i].Needs = append(all[i].Needs, id)
			}
		}
	}
	return all
}

// P18.2: cycles of many lengths.
func TestLongCycles(t *testing.T) {
	chance := rand.New(rand.NewPCG(18, 2))
	lengths := map[int]bool{}
	for range 3000 {
		all := sparse(chance)
		want := cycleByDefinition(all)
		if got := graph.Cycle(all); !slices.Equal(got, want) {
			t.Errorf("Cycle(%v) = %v, want %v", all, got, want)
		}
		lengths[len(want)] = true
	}
	for length := 2; length <= 7; length++ {
		if !lengths[length] {
			t.Errorf("no cycle of %d nodes", length)
		}
	}
}

// P18.7
func TestOrderOfNodes(t *testing.T) {
	chance := rand.New(rand.NewPCG(18, 3))
	for range 500 {
		all := byChance(chance, false)
		order, err := graph.Order(all)
		other, _ := graph.Order(shuffled(chance, all))
		if err != api.OK || idsOf(order) != idsOf(other) || len(order) != len(all) {
			t.Errorf("Order(%v) = %s, %v, and in another order %s", all, idsOf(order), err, idsOf(other))
		}
		listed := map[string]bool{}
		for _, node := range order {
			if listed[node.ID] || slices.ContainsFunc(node.Needs, func(id string) bool { return !listed[id] }) {
				t.Errorf("Order(%v) = %s", all, idsOf(order))
			}
			listed[node.ID] = true
		}
	}
}

// P18.8
func TestReadyReachesAll(t *testing.T) {
	chance := rand.New(rand.NewPCG(18, 4))
	for round := range 500 {
		all := byChance(chance, round%2 == 0)
		var done []string
		for ready := graph.Ready(all, nil); len(ready) > 0; ready = graph.Ready(all, done) {
			done = append(done, ready...)
		}
		if (len(done) == len(all)) != (len(graph.Cycle(all)) == 0) {
			t.Errorf("%v: done are %v", all, done)
		}
		for _, a := range all {
			for _, b := range all {
				if slices.Contains(graph.Above(all, b.ID), a.ID) != slices.Contains(graph.Below(all, a.ID), b.ID) {
					t.Errorf("%v: Above of %s and Below of %s do not agree", all, b.ID, a.ID)
				}
			}
		}
	}
}
