package graph_test

import (
	"fmt"
	"reflect"
	"slices"
	"strings"
	"testing"

	"pipeline/api"
	"pipeline/graph"
)

// nodes returns the nodes of a text such as "a b:a c:a,b".
func nodes(text string) []api.Node {
	var all []api.Node
	for _, word := range strings.Fields(text) {
		id, needs, ok := strings.Cut(word, ":")
		node := api.Node{ID: id}
		if ok {
			node.Needs = strings.Split(needs, ",")
		}
		all = append(all, node)
	}
	return all
}

// idsOf returns the IDs of nodes as a text.
func idsOf(all []api.Node) string {
	var ids []string
	for _, node := range all {
		ids = append(ids, node.ID)
	}
	return strings.Join(ids, " ")
}

func joined(ids []string) string { return strings.Join(ids, " ") }

// numbered returns so many nodes without needs.
func numbered(count int) []api.Node {
	all := make([]api.Node, count)
	for i := range all {
		all[i].ID = fmt.Sprint("n", i)
	}
	return all
}

// longID returns a path of so many bytes, all parts of which but the last one are as long as may be.
func longID(length int) string {
	var parts []string
	for ; length > api.MaxName; length -= api.MaxName + 1 {
		parts = append(parts, strings.Repeat("n", api.MaxName))
	}
	return strings.Join(append(parts, strings.Repeat("n", length)), "/")
}

// sound are graphs without a cycle, each with its order.
var sound = map[string]string{
	"": "", "a": "a", "b a": "a b", "a b:a": "a b", "b:a a": "a b", "a:b b": "b a",
	"a b:a c:a d:b,c": "a b c d", "d:c,b c:a b:a a": "a b c d", "z a:z b": "b z a", "c:b b:a a z": "a b c z", "a:z z b": "b z a",
	"t10 t9 t1:t10": "t9 t10 t1", "t2 t10 t1": "t1 t2 t10", "t1 t01 t001": "t1 t01 t001", "gen/x:gen gen end:gen,gen/x": "gen gen/x end", "a0 a/b a-b a.b a": "a a-b a.b a/b a0",
	"test.10 test.9 test.10.2 test.10.10": "test.9 test.10 test.10.2 test.10.10", "a:e b:e c:e d:e e": "e a b c d", "f:e e:d d:c c:b b:a a": "a b c d e f", "b:x a:y x y": "x b y a", "c:a,b b d:c a:e e": "b e a c d",
}

// P18.1, P18.3
func TestSound(t *testing.T) {
	for text, want := range sound {
		if err := graph.Valid(nodes(text)); err != api.OK {
			t.Errorf("Valid(%s) = %v", text, err)
		}
		if got, err := graph.Order(nodes(text)); err != api.OK || idsOf(got) != want {
			t.Errorf("Order(%s) = %s, %v, want %s", text, idsOf(got), err, want)
		}
		if got := graph.Cycle(nodes(text)); len(got) != 0 {
			t.Errorf("Cycle(%s) = %v", text, got)
		}
	}
}

// P18.3: the nodes are as they were, with their needs in their order.
func TestOrderKeepsNodes(t *testing.T) {
	want := []api.Node{{ID: "a"}, {ID: "b"}, {ID: "c", Needs: []string{"b", "a"}}, {ID: "d", Needs: []string{"c", "a", "b"}}}
	got, err := graph.Order([]api.Node{want[3], want[2], want[1], want[0]})
	if err != api.OK || len(got) != len(want) {
		t.Fatalf("Order = %v, %v", got, err)
	}
	for i, node := range got {
		if node.ID != want[i].ID || !slices.Equal(node.Needs, want[i].Needs) {
			t.Errorf("Order = %v, want %v", got, want)
		}
	}
}

// faulty are graphs with the errors of Valid.
var faulty = []struct {
	name  string
	nodes []api.Node
	want  api.Errno
}{
	{"itself", nodes("a:a"), api.ErrCycle},
	{"two", nodes("a:b b:a"), api.ErrCycle},
	{"cycle behind others", nodes("a b:a c:b,d d:c e:d"), api.ErrCycle},
	{"two cycles", nodes("a:b b:a c:c"), api.ErrCycle},
	{"no such node", nodes("a:x"), api.ErrNotFound},
	{"empty need", []api.Node{{ID: "a", Needs: []string{""}}}, api.ErrNotFound},
	{"need that is not a path", nodes("a b:A"), api.ErrNotFound},
	{"need in other letters", nodes("a1 b:a01"), api.ErrNotFound},
	{"same need", nodes("a b:a,a"), api.ErrExists},
	{"same need, not in a row", nodes("a b c:a,b,a"), api.ErrExists},
	{"itself twice", nodes("a:a,a"), api.ErrExists},
	{"same ID", nodes("a a"), api.ErrExists},
	{"same ID, not in a row", nodes("a b:a a:b"), api.ErrExists},
	{"empty ID", make([]api.Node, 1), api.ErrInvalid},
	{"capital letter", nodes("A"), api.ErrInvalid},
	{"empty part", nodes("a b//c"), api.ErrInvalid},
	{"slash at the end", nodes("a/"), api.ErrInvalid},
	{"blank", []api.Node{{ID: "a b"}}, api.ErrInvalid},
	{"first byte", nodes(".a"), api.ErrInvalid},
	{"long part", []api.Node{{ID: strings.Repeat("n", api.MaxName+1)}}, api.ErrInvalid},
	{"long path", []api.Node{{ID: longID(api.MaxPath + 1)}}, api.ErrInvalid},
	{"nodes", numbered(api.MaxJobs + 1), api.ErrLimit},

	// Which error comes first.
	{"number of nodes before their IDs", make([]api.Node, api.MaxJobs+1), api.ErrLimit},
	{"empty IDs twice", make([]api.Node, 2), api.ErrInvalid},
	{"node by node: ID", nodes("a A a"), api.ErrInvalid},
	{"node by node: same ID", nodes("a a A"), api.ErrExists},
	{"ID before needs", nodes("a:x A"), api.ErrInvalid},
	{"same ID before needs", nodes("a:x b b"), api.ErrExists},
	{"ID before same need", nodes("a b:a,a A"), api.ErrInvalid},
	{"need by need: no such node", nodes("a b:a,x,a"), api.ErrNotFound},
	{"need by need: same need", nodes("a b:a,a,x"), api.ErrExists},
	{"same need that is no node", nodes("a:x,x"), api.ErrNotFound},
	{"the first node: no such node", nodes("a c:x b:a,a"), api.ErrNotFound},
	{"the first node: same need", nodes("a b:a,a c:x"), api.ErrExists},
	{"no such node before a cycle", nodes("a:b b:a c:x"), api.ErrNotFound},
	{"same need before a cycle", nodes("a:b b:a,a"), api.ErrExists},
	{"the last of many", append(numbered(api.MaxJobs-3), nodes("z:n0,n1,n0")...), api.ErrExists},
}

// P18.1, P18.3, P18.6
func TestFaulty(t *testing.T) {
	for _, x := range faulty {
		if err := graph.Valid(x.nodes); err != x.want {
			t.Errorf("Valid(%s) = %v, want %v", x.name, err, x.want)
		}
		if got, err := graph.Order(x.nodes); err != x.want || len(got) != 0 {
			t.Errorf("Order(%s) = %s, %v, want %v", x.name, idsOf(got), err, x.want)
		}
		if n, path := graph.Critical(x.nodes, make([]int, len(x.nodes))); n != 0 || len(path) != 0 {
			t.Errorf("Critical(%s) = %d, %v", x.name, n, path)
		}
	}
}

// P18.2, P18.4, P18.5: nothing of a graph that is not sound, even where the node and its needs are there.
func TestNotSound(t *testing.T) {
	for _, x := range faulty {
		if x.want == api.ErrCycle {
			continue
		}
		all := append([]api.Node{{ID: "p", Needs: []string{"p", "q"}}, {ID: "q"}}, x.nodes...)
		if x.name == "nodes" {
			all = slices.Concat(nodes("p:p,q q"), numbered(api.MaxJobs-1))
		}
		if graph.Valid(all) != x.want {
			t.Fatalf("%s is another error behind other nodes", x.name)
		}
		if got := slices.Concat(graph.Cycle(all), graph.Above(all, "p"), graph.Below(all, "q"), graph.Ready(all, nil), graph.Ready(all, []string{"q"})); len(got) != 0 {
			t.Errorf("%s: %v", x.name, got)
		}
	}
}

// P18.1: as many nodes, and as long IDs, as may be.
func TestLimits(t *testing.T) {
	all := numbered(api.MaxJobs - 1)
	all = append(all, api.Node{ID: longID(api.MaxPath)})
	all[0].Needs = []string{longID(api.MaxPath)}
	if err := graph.Valid(all); err != api.OK {
		t.Errorf("Valid = %v", err)
	}
	if got := joined(graph.Above(all, "n0")); got != longID(api.MaxPath) {
		t.Errorf("Above = %s", got)
	}
	if got, err := graph.Order(all); err != api.OK || len(got) != len(all) || got[0].ID != "n1" || got[len(got)-1].ID != "n0" {
		t.Errorf("Order = %.99s, %v", idsOf(got), err)
	}
}

// P18.2
func TestCycle(t *testing.T) {
	for text, want := range map[string]string{
		"a b:a": "", "": "", "a:a": "a", "x:y y:z z:x,y": "x y z", "a:b b:c c:b": "b c", "a:c,b b:d c:d d:a": "a b d", "b:b a:c c:a": "a c",
		"a:x": "", "a:a b:b,b": "", "a:a A": "", "a:a a": "",
		// The first node on a cycle need not be the first of all, nor on the shortest cycle.
		"a b:b": "b", "a:b b:b": "b", "b:b c:b a": "b", "z:z a:c c:d d:a": "a c d", "t10:t10 t9:t2 t2:t9": "t2 t9", "t10:t9 t9:t10": "t9 t10", "a:b b:c c:d d:c,b": "b c d",
		// Between two cycles, and above and below them.
		"c:c b:c a:a,b": "a", "c:c b:c d:d,b": "c", "d:d b:d a:b": "d", "d:d b:d c:b c2:c2": "c2", "b:a,c c:b a": "b c",
		// A shorter cycle is before the first one, and among the shortest ones every node counts.
		"a:b,z b:c c:a z:a": "a z", "a:a,b b:a": "a", "a:z,y z:b y:c b:a c:a": "a y c", "a:b,c b:z c:d z:a d:a": "a b z", "a:b b:d,c c:a d:a": "a b c", "a:t10,t9 t10:a t9:a": "a t9", "a:b,c b:x x:y y:a c:w w:a": "a c w",
		"a:b,c b:f,e c:d d:a e:a f:a": "a b e", "a:b,c b:g c:d g:a,b d:a": "a b g",
	} {
		if got := joined(graph.Cycle(nodes(text))); got != want {
			t.Errorf("Cycle(%s) = %s, want %s", text, got, want)
		}
	}
}

// P18.4
func TestAboveBelow(t *testing.T) {
	for _, x := range []struct{ text, id, above, below string }{
		{"d:b,c c:a b:a a", "d", "a b c", ""}, {"d:b,c c:a b:a a", "a", "", "b c d"}, {"d:b,c c:a b:a a", "b", "a", "d"}, {"a b", "a", "", ""},
		{"a b:a", "c", "", ""}, {"a b:a", "", "", ""}, {"a b:a", "A", "", ""}, {"a b:a", "b ", "", ""}, {"", "a", "", ""},
		{"a t10:a t9:a t1:t10,t9", "a", "", "t1 t9 t10"}, {"a t10:a t9:a t1:t10,t9", "t1", "a t9 t10", ""}, {"gen gen/x:gen end:gen/x,gen", "end", "gen gen/x", ""},
		// On a cycle, above and below one.
		{"a:a", "a", "a", "a"}, {"a:b b:a", "a", "a b", "a b"}, {"a:b b:c c:b d:a", "a", "b c", "d"}, {"a:b b:c c:b d:a", "b", "b c", "a b c d"}, {"a:b b:c c:b d:a", "d", "a b c", ""}, {"a b:b,a c:b", "a", "", "b c"}, {"a b:b,a c:b", "c", "a b", ""},
	} {
		if got := joined(graph.Above(nodes(x.text), x.id)); got != x.above {
			t.Errorf("Above(%s, %s) = %s, want %s", x.text, x.id, got, x.above)
		}
		if got := joined(graph.Below(nodes(x.text), x.id)); got != x.below {
			t.Errorf("Below(%s, %s) = %s, want %s", x.text, x.id, got, x.below)
		}
	}
}

// P18.5
func TestReady(t *testing.T) {
	diamond := "d:b,c c:a b:a a"
	for _, x := range []struct{ text, done, want string }{
		{diamond, "", "a"}, {diamond, "a", "b c"}, {diamond, "a b", "c"}, {diamond, "c a b", "d"}, {diamond, "a b c d", ""}, {diamond, "b c", "a d"}, {diamond, "d", "a"}, {diamond, "b", "a"},
		{diamond, "a a x A // b/c", "b c"}, {"", "a", ""}, {"", "", ""}, {"t10 t9 t1 a/b a", "", "a a/b t1 t9 t10"}, {"t10 t9:t10 t1 a:t1", "t1 t10", "a t9"},
		{"a:a", "", ""}, {"a:a", "a", ""}, {"a:b b:a c d:c,a", "", "c"}, {"a:b b:a c d:c,a", "a c", "b d"}, {"a:b b:a c d:c,a", "a b c", "d"},
	} {
		if got := joined(graph.Ready(nodes(x.text), strings.Fields(x.done))); got != x.want {
			t.Errorf("Ready(%s, %s) = %s, want %s", x.text, x.done, got, x.want)
		}
	}
	if got := graph.Ready(nodes("a b:a"), []string{"", "a", "b\x00"}); joined(got) != "b" {
		t.Errorf("Ready = %v", got)
	}
}

// P18.6
func TestCritical(t *testing.T) {
	diamond := "a b:a c:a d:b,c"
	for _, x := range []struct {
		text string
		cost []int
		n    int
		want string
	}{
		{diamond, []int{1, 5, 2, 3}, 9, "a b d"}, {diamond, []int{1, 2, 5, 3}, 9, "a c d"}, {diamond, []int{1, 2, 2, 3}, 6, "a b d"}, {"d:c,b c:a b:a a", []int{3, 2, 5, 1}, 9, "a b d"},
		{"a b c", []int{4, 4, 1}, 4, "a"}, {"a b c", []int{1, 4, 4}, 4, "b"}, {"c b a", []int{4, 1, 4}, 4, "a"}, {"t10 t9", []int{2, 2}, 2, "t9"}, {"t10 t9", []int{3, 2}, 3, "t10"},
		// Nodes without cost: a list is before those that it begins, and what it begins with decides.
		{"z a:z", []int{0, 5}, 5, "a"}, {"a b:a", []int{5, 0}, 5, "a"}, {"a b:a", []int{0, 5}, 5, "a b"}, {"a", []int{0}, 0, "a"}, {"z a:z", []int{0, 0}, 0, "a"}, {"a b:a c:b", []int{0, 0, 0}, 0, "a"}, {"a b:a c:b", []int{1, 0, 1}, 2, "a b c"},
		{"a c:a b:c", []int{1, 1, 0}, 2, "a c"}, {"a c:a b:a d:b,c", []int{1, 0, 0, 1}, 2, "a b d"}, {"a d:a,b b:a", []int{1, 1, 0}, 2, "a b d"}, {"b d:b c:b", []int{0, 7, 7}, 7, "b c"}, {"b d:b c:b a:b", []int{0, 7, 7, 7}, 7, "a"},
		{"a", []int{api.MaxTime}, api.MaxTime, "a"}, {"a b:a", []int{api.MaxTime, api.MaxTime}, 2 * api.MaxTime, "a b"},
		// No costs, or not such.
		{"", nil, 0, ""}, {"", []int{1}, 0, ""}, {"a", nil, 0, ""}, {"a", []int{1, 2}, 0, ""}, {"a b", []int{1}, 0, ""}, {"a", []int{-1}, 0, ""}, {"a b", []int{5, -1}, 0, ""}, {"a", []int{api.MaxTime + 1}, 0, ""}, {"a b", []int{api.MaxTime + 1, 5}, 0, ""},
		{"a:a", []int{1}, 0, ""}, {"a b:a,b", []int{1, 2}, 0, ""}, {"a:x", []int{1}, 0, ""}, {"a a", []int{1, 1}, 0, ""}, {"A", []int{1}, 0, ""},
	} {
		n, path := graph.Critical(nodes(x.text), x.cost)
		if n != x.n || joined(path) != x.want {
			t.Errorf("Critical(%s, %v) = %d, %v, want %d, %s", x.text, x.cost, n, path, x.n, x.want)
		}
	}
}

// R5
func TestMemory(t *testing.T) {
	given := func() []api.Node {
		all := append(make([]api.Node, 0, 9), nodes("d:c,a,b c:a b:a a")...)
		all[0].Needs = append(make([]string, 0, 9), all[0].Needs...)
		return all
	}
	all, cost, done := given(), []int{1, 2, 3, 4}, []string{"b", "a", "a"}
	ordered, _ := graph.Order(all)
	graph.Valid(all)
	graph.Cycle(all)
	graph.Critical(all, cost)
	for _, ids := range [][]string{graph.Above(all, "d"), graph.Below(all, "a"), graph.Ready(all, done)} {
		clear(ids)
	}
	for i := range ordered {
		clear(ordered[i].Needs[:cap(ordered[i].Needs)])
	}
	if !reflect.DeepEqual(all, given()) || !slices.Equal(all[0].Needs[:9], append(slices.Clone(given()[0].Needs), make([]string, 6)...)) {
		t.Errorf("the nodes are now %v", all)
	}
	if !slices.Equal(cost, []int{1, 2, 3, 4}) || !slices.Equal(done, []string{"b", "a", "a"}) {
		t.Errorf("the costs and what is done are now %v, %v", cost, done)
	}
}
