package graph_test

import (
	"fmt"
	"slices"
	"testing"

	"pipeline/api"
	"pipeline/graph"
)

// chain returns as many nodes as may be, each of which needs the next one.
func chain() []api.Node {
	all := numbered(api.MaxJobs)
	for i := range all[1:] {
		all[i].Needs = []string{all[i+1].ID}
	}
	return all
}

// dense returns as many nodes as may be, each of which needs all after it.
func dense() []api.Node {
	all := numbered(api.MaxJobs)
	for i := range all {
		for j := i + 1; j < len(all); j++ {
			all[i].Needs = append(all[i].Needs, all[j].ID)
		}
	}
	return all
}

func ids(all []api.Node) []string {
	var list []string
	for _, node := range all {
		list = append(list, node.ID)
	}
	return list
}

// P18.3, P18.4, P18.6
func TestLargeGraphs(t *testing.T) {
	for name, all := range map[string][]api.Node{"chain": chain(), "dense": dense()} {
		backward := ids(all)
		slices.Reverse(backward)
		if got, err := graph.Order(all); err != api.OK || !slices.Equal(ids(got), backward) {
			t.Errorf("Order of %s = %.99s, %v", name, idsOf(got), err)
		}
		if got := graph.Above(all, "n0"); !slices.Equal(got, ids(all[1:])) {
			t.Errorf("Above of %s = %.99v", name, got)
		}
		if got := graph.Below(all, "n1023"); !slices.Equal(got, ids(all[:1023])) {
			t.Errorf("Below of %s = %.99v", name, got)
		}
		// The greatest sum that there can be is 2^60.
		n, path := graph.Critical(all, slices.Repeat([]int{api.MaxTime}, len(all)))
		if n != api.MaxTime*len(all) || !slices.Equal(path, backward) {
			t.Errorf("Critical of %s = %d, %.99v", name, n, path)
		}
		if got := graph.Cycle(all); len(got) != 0 {
			t.Errorf("Cycle of %s = %.99v", name, got)
		}
	}
}

// P18.2
func TestLargeCycles(t *testing.T) {
	ring := chain()
	ring[1023].Needs = []string{"n0"}
	if got := graph.Cycle(ring); !slices.Equal(got, ids(ring)) {
		t.Errorf("Cycle of a ring = %.99v", got)
	}
	ring[1023].Needs = []string{"n700"}
	if got := graph.Cycle(ring); !slices.Equal(got, ids(ring[700:])) {
		t.Errorf("Cycle of a ring behind a chain = %.99v", got)
	}
	// All nodes lie between two that are on cycles.
	all := dense()
	all[0].ID, all[0].Needs = "z", append(all[0].Needs, "z")
	all[1023].Needs = []string{"n1023"}
	if got := graph.Cycle(all); !slices.Equal(got, []string{"n1023"}) {
		t.Errorf("Cycle = %.99v", got)
	}
	// Every node needs every node.
	for i := range all {
		all[i].ID, all[i].Needs = fmt.Sprint("n", i), nil
	}
	for i := range all {
		all[i].Needs = ids(all)
	}
	if got := graph.Cycle(all); !slices.Equal(got, []string{"n0"}) {
		t.Errorf("Cycle of a complete graph = %.99v", got)
	}
	if got := graph.Valid(all); got != api.ErrCycle {
		t.Errorf("Valid of a complete graph = %v", got)
	}
}
