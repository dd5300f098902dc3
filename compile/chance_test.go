package compile_test

import (
	"fmt"
	"math/rand/v2"
	"reflect"
	"slices"
	"strings"
	"testing"

	"pipeline/api"
	"pipeline/compile"
	"pipeline/graph"
	"pipeline/ident"
)

// spec is a job that was made by chance. Values is -1 for a job without a matrix.
type spec struct {
	name           string
	values, shards int
	needs          []string
}

func (s spec) source() string {
	var lines, needs []string
	for _, n := range s.needs {
		needs = append(needs, "\""+n+"\"")
	}
	if s.values >= 0 {
		lines = append(lines, many(s.values))
	}
	if s.shards > 0 {
		lines = append(lines, fmt.Sprint("shards = ", s.shards))
	}
	return job(s.name, append(lines, "needs = ["+strings.Join(needs, ", ")+"]")...)
}

// ids returns the IDs of the instances of a job, as P19.3 defines them.
func (s spec) ids() []string {
	ids := []string{s.name}
	expand := func(n int) {
		var more []string
		for _, id := range ids {
			for i := 1; i <= n; i++ {
				more = append(more, fmt.Sprint(id, ".", i))
			}
		}
		ids = more
	}
	if s.values >= 0 {
		expand(s.values)
	}
	if s.shards > 0 {
		expand(s.shards)
	}
	return ids
}

// expected returns the IDs of a plan in order with their Needs, as P19.2 defines them.
func expected(specs []spec) ([]api.Node, api.Errno) {
	var nodes []api.Node
	for _, s := range specs {
		var needs []string
		if len(s.ids()) == 0 {
			continue
		}
		for _, n := range s.needs {
			found := false
			for _, other := range specs {
				if other.name == n {
					found = true
					needs = append(needs, other.ids()...)
				} else if slices.Contains(other.ids(), n) {
					found = true
					needs = append(needs, n)
				}
			}
			if !found {
				return nil, api.ErrNotFound
			}
		}
		for _, id := range s.ids() {
			nodes = append(nodes, api.Node{ID: id, Needs: ident.Sorted(needs)})
		}
	}
	return inOrder(nodes)
}

// inOrder returns nodes in topological order, as P18.3 defines it.
func inOrder(nodes []api.Node) ([]api.Node, api.Errno) {
	var listed []api.Node
	done := map[string]bool{}
	for len(listed) < len(nodes) {
		best := -1
		for i, n := range nodes {
			waits := slices.ContainsFunc(n.Needs, func(id string) bool { return !done[id] })
			if !done[n.ID] && !waits && (best < 0 || ident.Compare(n.ID, nodes[best].ID) < 0) {
				best = i
			}
		}
		if best < 0 {
			return nil, api.ErrCycle
		}
		done[nodes[best].ID] = true
		listed = append(listed, nodes[best])
	}
	return listed, api.OK
}

func specsByChance(chance *rand.Rand) []spec {
	var specs []spec
	names := []string{"a", "b", "j1", "j2", "j10", "c"}
	chance.Shuffle(len(names), func(i, k int) { names[i], names[k] = names[k], names[i] })
	for i := range 1 + chance.IntN(len(names)) {
		s := spec{name: names[i], values: chance.IntN(7) - 3, shards: max(0, chance.IntN(8)-4)}
		s.values = max(s.values, -1)
		for range chance.IntN(4) {
			target := specByChance(chance, specs)
			switch ids := target.ids(); {
			case chance.IntN(60) == 0:
				s.needs = append(s.needs, names[chance.IntN(len(names))])
			case target.name == "":
			case chance.IntN(3) == 0 && len(ids) > 0:
				s.needs = append(s.needs, ids[chance.IntN(len(ids))])
			case chance.IntN(40) == 0:
				s.needs = append(s.needs, target.name+".3")
			default:
				s.needs = append(s.needs, target.name)
			}
		}
		specs = append(specs, s)
	}
	return specs
}

func specByChance(chance *rand.Rand, specs []spec) spec {
	if len(specs) == 0 {
		return spec{values: -1}
	}
	return specs[chance.IntN(len(specs))]
}

// P19.2, P19.3, P19.8, P19.9: plans of jobs that are made by chance, and of the same jobs in another order.
func TestPlansByChance(t *testing.T) {
	count := map[api.Errno]int{}
	for seed := range uint64(1500) {
		chance := rand.New(rand.NewPCG(seed, 19))
		specs := specsByChance(chance)
		want, wantErr := expected(specs)
		count[wantErr]++
		var first api.Plan
		for round := range 3 {
			source := head
			for _, s := range specs {
				source += s.source()
			}
			p, _, err := compile.Pipeline(source, nil)
			if err != wantErr || !same(compile.Nodes(p), want) {
				t.Fatalf("the plan of\n%s= %v, %v, want %v, %v", source, compile.Nodes(p), err, want, wantErr)
			}
			if err == api.OK {
				expectSound(t, p)
			}
			if round == 0 {
				first = p
			} else if !same(p, first) {
				t.Fatalf("the plan of\n%sdepends on the order of the jobs", source)
			}
			chance.Shuffle(len(specs), func(i, k int) { specs[i], specs[k] = specs[k], specs[i] })
		}
	}
	if count[api.OK] < 800 || count[api.ErrNotFound] < 50 || count[api.ErrCycle] < 20 {
		t.Errorf("the results are %v", count)
	}
}

// expectSound checks that a plan is as P19.8 promises.
func expectSound(t *testing.T, p api.Plan) {
	t.Helper()
	if err := compile.Valid(p); err != api.OK {
		t.Fatalf("a plan that is not valid: %v", err)
	}
	if c := graph.Cycle(compile.Nodes(p)); len(c) > 0 {
		t.Fatalf("a plan with the cycle %v", c)
	}
	seen := map[string]bool{}
	for _, j := range p.Jobs {
		for _, n := range j.Needs {
			if !seen[n] {
				t.Fatalf("%s is before %s, which it needs", j.ID, n)
			}
		}
		seen[j.ID] = true
	}
}

// lists returns where the lists in a value have their memory, including what they could grow into.
func lists(v reflect.Value, spans [][2]uintptr) [][2]uintptr {
	switch v.Kind() {
	case reflect.Struct:
		for i := range v.NumField() {
			spans = lists(v.Field(i), spans)
		}
	case reflect.Slice:
		if size := uintptr(v.Cap()) * v.Type().Elem().Size(); size > 0 {
			spans = append(spans, [2]uintptr{v.Pointer(), v.Pointer() + size})
		}
		for i := range v.Len() {
			spans = lists(v.Index(i), spans)
		}
	}
	return spans
}

// shares reports whether lists in values, or two lists of one value, share memory.
func shares(values ...any) bool {
	var spans [][2]uintptr
	for _, x := range values {
		spans = lists(reflect.ValueOf(x), spans)
	}
	slices.SortFunc(spans, func(a, b [2]uintptr) int {
		if a[0] < b[0] {
			return -1
		}
		return 1
	})
	for i := 1; i < len(spans); i++ {
		if spans[i][0] < spans[i-1][1] {
			return true
		}
	}
	return false
}

// R5: plans, jobs and nodes are new memory, and arguments are not changed.
func TestMemory(t *testing.T) {
	source := withParams + job("a", "outputs = [\"o\"]") + block("job \"full\"", "needs = [\"a\"]", "labels = l", "uses = [\"a/o\"]", "outputs = [\"p\"]", "secrets = [\"s\"]", "tests = [\"t\"]", "inputs = [\"x\"]",
		"when = [success, b][0] || {k: [1]}.k == [2]", "shards = 2", "matrix {\nx = [1, 2]\n}", block("step \"log\"", "text = \"t\""), block("cache", "key = \"k\"", "restore = [\"r\"]", "files = [\"f\"]"),
		block("retry", "on = [\"lost\"]"), block("gate", "approvals = 1", "approvers = [\"a\"]", "expiry = \"1s\"")) + job("b", "when = [success, b][0]")
	f, args := file(t, source), []api.Var{{Name: "m", Value: list(list(str("q")), api.Value{Kind: api.VMap, Keys: []string{"k"}, List: []api.Value{list()}})}}
	literal := func() api.Expr { return api.Expr{Kind: api.ELit, Value: list(list(str("q")))} }
	f.Blocks = append(f.Blocks, api.Block{Kind: "job", Name: "lit", Attrs: []api.Attr{{Name: "when", Expr: api.Expr{Kind: api.EBinary, Name: "==", Args: []api.Expr{literal(), literal()}}}}})
	f2, args2 := tidy(f), tidy(args)
	p, err := compile.File(f, args)
	if err != api.OK || len(p.Jobs) != 7 {
		t.Fatal(p, err)
	}
	if !same(f, f2) || !same(args, args2) {
		t.Error("File has changed its arguments")
	}
	if shares(f) || shares(args) {
		t.Fatal("the arguments share memory themselves")
	}
	if shares(p) || shares(p, f, args) {
		t.Error("the lists of a plan share memory, or a plan shares memory with its arguments")
	}
	copied := tidy(p)
	j, _ := compile.Find(p, "full.1.2")
	if shares(p, j) || shares(p, compile.Nodes(p)) || compile.Valid(p) != api.OK || !same(p, copied) {
		t.Error("a job or nodes share memory with their plan")
	}
}

// R1: arguments that are not valid, or very deep, are met by errors.
func TestStrangeArguments(t *testing.T) {
	value, e, b := number(1), api.Expr{Kind: api.EName, Name: "success"}, api.Block{Kind: "job", Name: "a"}
	for range 1 << 16 {
		value = list(value)
		e = api.Expr{Kind: api.EUnary, Name: "!", Args: []api.Expr{e}}
		b = api.Block{Kind: "job", Name: "a", Blocks: []api.Block{b}}
	}
	source := block("pipeline \"p\"", block("param \"x\"", "type = \"any\"")) + job("a")
	for _, x := range []struct {
		v    api.Value
		want api.Errno
	}{{value, api.ErrType}, {api.Value{Kind: 77}, api.ErrType}, {api.Value{Kind: -1}, api.ErrType}, {api.Value{Kind: api.VMap, List: []api.Value{{}}}, api.ErrType}} {
		expectError(t, source, x.want, api.Var{Name: "x", Value: x.v})
	}
	f := file(t, source)
	for _, x := range []struct {
		b    api.Block
		want api.Errno
	}{{b, api.ErrDepth}, {api.Block{}, api.ErrInvalid}, {api.Block{Kind: "job", Name: "b", Attrs: []api.Attr{{Name: "when", Expr: e}}}, api.ErrLimit}, {api.Block{Kind: "job", Name: "b", Attrs: []api.Attr{{Name: "when"}}}, api.ErrInvalid}} {
		if p, err := compile.File(api.File{Blocks: append(f.Blocks, x.b)}, nil); err != x.want || p.Jobs != nil {
			t.Errorf("a file that is not valid: %v, want %v", err, x.want)
		}
	}
	j := plain("a")
	j.When = e
	if err := compile.Valid(api.Plan{Name: "p", Jobs: []api.Job{j}}); err != api.ErrLimit {
		t.Errorf("a deep condition: %v", err)
	}
	if found, ok := compile.Find(api.Plan{Jobs: []api.Job{j}}, "a"); !ok || len(found.When.Args) != 1 {
		t.Error("a job with a deep condition is not found")
	}
	j = plain("a")
	j.Vars = []api.Var{{Name: "x", Value: value}}
	if err := compile.Valid(api.Plan{Name: "p", Jobs: []api.Job{j}}); err != api.ErrDepth {
		t.Errorf("a deep value: %v", err)
	}
}

// R6: large sources are compiled in reasonable time, and give the same plan each time.
func TestLargeSource(t *testing.T) {
	var b strings.Builder
	b.WriteString("pipeline \"p\" {\n")
	for i := range 700 {
		fmt.Fprintf(&b, "param \"p%d\" {\ntype = \"int\"\ndefault = %d\n}\n", i, i)
	}
	b.WriteString("}\n")
	for i := range 900 {
		fmt.Fprintf(&b, "job \"j%d\" {\ncost = p%d\n}\n", i, 1+i%699)
	}
	p, q := compiled(t, b.String()), compiled(t, b.String())
	if len(p.Jobs) != 900 || p.Jobs[699].Cost != 1 || p.Jobs[698].Cost != 699 || !reflect.DeepEqual(p, q) {
		t.Errorf("a plan of %d jobs", len(p.Jobs))
	}
}
