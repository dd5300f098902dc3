package dynamic_test

import (
	"fmt"
	"math/rand/v2"
	"reflect"
	"slices"
	"strings"
	"testing"

	"pipeline/api"
	"pipeline/compile"
	"pipeline/dynamic"
	"pipeline/graph"
	"pipeline/ident"
)

const head = "pipeline \"p\" {\n}\n"

// job returns the source of a job.
func job(name string, lines ...string) string {
	return "job \"" + name + "\" {\n" + strings.Join(append(lines, "}\n"), "\n")
}

// plan compiles a source.
func plan(t *testing.T, source string) api.Plan {
	t.Helper()
	p, _, err := compile.Pipeline(source, nil)
	if err != api.OK {
		t.Fatalf("%.500s: %v", source, err)
	}
	return p
}

// added returns a plan with a child pipeline.
func added(t *testing.T, p api.Plan, owner, source string) api.Plan {
	t.Helper()
	q, err := dynamic.Child(p, owner, source)
	if err != api.OK {
		t.Fatalf("the child %.500s of %s: %v", source, owner, err)
	}
	return q
}

// expectError tries to add a child pipeline, without which the plan stays as it is.
func expectError(t *testing.T, what string, p api.Plan, owner, source string, want api.Errno) {
	t.Helper()
	before := fmt.Sprintf("%#v", p)
	q, err := dynamic.Child(p, owner, source)
	if err != want || fmt.Sprintf("%#v", q) != before || fmt.Sprintf("%#v", p) != before {
		t.Errorf("%s: %v, want %v and the plan unchanged", what, err, want)
	}
}

// shown returns the jobs of a plan with their Needs.
func shown(p api.Plan) string {
	var all []string
	for _, j := range p.Jobs {
		all = append(all, j.ID+"("+strings.Join(j.Needs, " ")+")")
	}
	return strings.Join(all, " ")
}

// P20.1: Depth counts slashes, in any string.
func TestDepth(t *testing.T) {
	for id, want := range map[string]int{"": 0, "a": 0, "a/b": 1, "a/b/c": 2, "/": 1, "//": 2, "a//b/": 3, "a.1\\b": 0, strings.Repeat("/", 1000): 1000} {
		if got := dynamic.Depth(id); got != want {
			t.Errorf("Depth of %.20q = %d, want %d", id, got, want)
		}
	}
}

// P20.2: Owner is what stands before the last slash, in any string.
func TestOwner(t *testing.T) {
	for _, x := range []struct {
		id, want string
		ok       bool
	}{{"a/b/c", "a/b", true}, {"a/b", "a", true}, {"a", "", false}, {"", "", false}, {"/", "", true}, {"a/", "a", true}, {"/a", "", true}, {"a//", "a/", true}, {"a.1/b.2.3/c", "a.1/b.2.3", true}} {
		if got, ok := dynamic.Owner(x.id); got != x.want || ok != x.ok {
			t.Errorf("Owner of %q = %q, %v", x.id, got, ok)
		}
	}
}

// P20.3: Children are found by their IDs, in the order of any plan.
func TestChildren(t *testing.T) {
	var p api.Plan
	for _, id := range []string{"gen/z", "gen", "gen/a", "gen.1/b", "Gen/x", "gen/a/b", "generate", "gen/", "x/gen/y", "gen/a", "/q", ""} {
		p.Jobs = append(p.Jobs, api.Job{ID: id})
	}
	for job, want := range map[string]string{"gen": "gen/z gen/a gen/a/b gen/ gen/a", "gen/a": "gen/a/b", "gen.1": "gen.1/b", "ge": "", "none": "", "x": "x/gen/y", "": "/q", "gen/": ""} {
		if got := strings.Join(dynamic.Children(p, job), " "); got != want {
			t.Errorf("Children of %q = %s, want %s", job, got, want)
		}
	}
	if got := dynamic.Children(api.Plan{}, "gen"); len(got) != 0 {
		t.Errorf("Children in no jobs = %v", got)
	}
}

// P20.4: where the jobs of a child pipeline stand, and what they need.
func TestChild(t *testing.T) {
	gen := job("gen", "child = true")
	for _, x := range []struct{ source, owner, child, want string }{
		{gen + job("end", "needs = [\"gen\"]"), "gen", job("x"), "gen() gen/x(gen) end(gen gen/x)"},
		{gen, "gen", "", "gen()"},
		{gen + job("end", "needs = [\"gen\"]"), "gen", job("x", "matrix {\n}"), "gen() end(gen)"},
		{gen + job("end", "needs = [\"gen\"]"), "gen", job("b") + job("a", "needs = [\"b\"]") + job("c"), "gen() gen/b(gen) gen/a(gen/b) gen/c(gen) end(gen gen/a gen/b gen/c)"},
		{job("a") + gen + job("z"), "gen", job("x"), "a() gen() gen/x(gen) z()"},
		{job("a", "needs = [\"gen\"]") + gen + job("z", "needs = [\"a\"]"), "gen", job("x"), "gen() gen/x(gen) a(gen gen/x) z(a)"},
		{gen + job("y", "needs = [\"gen\"]", "child = true") + job("z", "needs = [\"y\", \"gen\"]"), "y", job("gen"), "gen() y(gen) y/gen(y) z(gen y y/gen)"},
		{job("gen", "shards = 2", "child = true") + job("end", "needs = [\"gen\"]"), "gen.2", job("t", "shards = 2"), "gen.1() gen.2() gen.2/t.1(gen.2) gen.2/t.2(gen.2) end(gen.1 gen.2 gen.2/t.1 gen.2/t.2)"},

		// Lists stay ascending in natural order: a hyphen and a period are before a slash, digits and letters behind it.
		{gen + job("gen-a") + job("gen0") + job("gena") + job("z", "needs = [\"gena\", \"gen0\", \"gen-a\", \"gen\"]"), "gen", job("x2") + job("x10"), "gen() gen/x2(gen) gen/x10(gen) gen-a() gen0() gena() z(gen gen-a gen/x2 gen/x10 gen0 gena)"},
		{gen + job("e", "needs = [\"gen\"]"), "gen", job("z", "needs = [\"y2\", \"y10\"]") + job("y2") + job("y10"), "gen() gen/y2(gen) gen/y10(gen) gen/z(gen/y2 gen/y10) e(gen gen/y2 gen/y10 gen/z)"},
	} {
		q := added(t, plan(t, head+x.source), x.owner, "pipeline \"other\" {\n}\n"+x.child)
		if got := shown(q); got != x.want || q.Name != "p" || compile.Valid(q) != api.OK {
			t.Errorf("%s\nwith a child of %s\n%s= %s %s, want %s", x.source, x.owner, x.child, q.Name, got, x.want)
		}
	}
}

// P20.4: the jobs of a child pipeline are changed in nothing but their IDs, Needs and Uses.
func TestChildJob(t *testing.T) {
	child := head + job("base", "outputs = [\"o2\", \"o10\"]") + job("full", "needs = [\"base\"]", "uses = [\"base/o10\", \"base/o2\"]", "labels = [\"base\"]", "outputs = [\"p\"]", "secrets = [\"s\"]", "tests = [\"base/t\"]",
		"inputs = [\"base/**\"]", "group = \"base\"", "environment = \"base\"", "policy = \"latest\"", "when = failure || always", "priority = 3", "cost = 4", "timeout = \"5s\"", "allow_failure = true", "child = true", "shards = 1",
		"step \"use\" {\nname = \"base/o2\"\n}", "cache {\nkey = \"base\"\n}", "retry {\nmax = 2\n}", "gate {\napprovers = [\"a\"]\napprovals = 1\nexpiry = \"1s\"\n}")
	q := added(t, plan(t, head+job("gen", "child = true")), "gen", child)
	base, full := plan(t, child).Jobs[0], plan(t, child).Jobs[1]
	base.ID, base.Needs = "gen/base", []string{"gen"}
	full.ID, full.Needs, full.Uses = "gen/full.1", []string{"gen/base"}, []string{"gen/base/o2", "gen/base/o10"}
	if got, want := fmt.Sprintf("%+v", q.Jobs[1:]), fmt.Sprintf("%+v", []api.Job{base, full}); got != want {
		t.Errorf("the jobs of the child are\n%s, want\n%s", got, want)
	}
}

// P20.4: child pipelines of child pipelines, as deep as they may be.
func TestNestedChildren(t *testing.T) {
	p := plan(t, head+job("g", "child = true")+job("end", "needs = [\"g\"]"))
	owner := "g"
	for range api.MaxChildDepth {
		p = added(t, p, owner, head+job("g", "child = true"))
		owner += "/g"
	}
	want := "g() g/g(g) g/g/g(g/g) g/g/g/g(g/g/g) g/g/g/g/g(g/g/g/g) end(g g/g g/g/g g/g/g/g g/g/g/g/g)"
	if got := shown(p); got != want {
		t.Errorf("the plan is %s, want %s", got, want)
	}
	expectError(t, "a child that is too deep", p, owner, head, api.ErrDepth)
	expectError(t, "a second child", p, "g/g", head, api.ErrState)

	// What needs a job of a child pipeline also needs the children of that job.
	p = plan(t, head+job("g", "child = true")+job("end", "needs = [\"g\"]"))
	p = added(t, p, "g", head+job("a", "child = true")+job("b", "needs = [\"a\"]"))
	p = added(t, p, "g/a", head+job("x"))
	if got, want := shown(p), "g() g/a(g) g/a/x(g/a) g/b(g/a g/a/x) end(g g/a g/a/x g/b)"; got != want {
		t.Errorf("the plan is %s, want %s", got, want)
	}
}

// P20.4: a child pipeline without jobs does not stand in the way of another one.
func TestEmptyChild(t *testing.T) {
	p := plan(t, head+job("gen", "child = true"))
	q := added(t, added(t, p, "gen", head), "gen", head+job("x"))
	if got := shown(q); got != "gen() gen/x(gen)" {
		t.Errorf("the plan is %s", got)
	}
	expectError(t, "a second child", q, "gen", head, api.ErrState)
}

// jobs returns the source of as many jobs.
func jobs(prefix string, n int) string {
	var b strings.Builder
	for i := range n {
		b.WriteString(job(fmt.Sprint(prefix, i)))
	}
	return b.String()
}

// P20.4: the errors, and their order.
func TestChildErrors(t *testing.T) {
	long := strings.Repeat("a", 63)
	deep := long
	for range 4 {
		deep += "/" + long
	}
	p := plan(t, head+job("gen", "child = true")+job("no")+job("old", "child = true")+jobs("j", 996))
	p = added(t, p, "old", head+job("x")) // 1000 jobs
	p.Jobs = append(p.Jobs, p.Jobs[0], p.Jobs[0])
	p.Jobs[1000].ID, p.Jobs[1001].ID = deep, strings.Replace(deep, "a", "b", 1)
	p.Jobs[1001].Child = false
	bad := p
	bad.Name = ""
	for _, x := range []struct {
		what       string
		p          api.Plan
		owner, src string
		want       api.Errno
	}{
		{"a plan that is not valid", bad, "gen", head + job("x"), api.ErrInvalid},
		{"and no such job", bad, "none", head, api.ErrInvalid},
		{"and a source that is not valid", bad, "gen", "#", api.ErrInvalid},
		{"no such job", p, "none", head, api.ErrNotFound},
		{"a job of no child", p, "gen/x", head, api.ErrNotFound},
		{"no name", p, "", head, api.ErrNotFound},
		{"no such job and an error of the source", p, "none", head + job("A"), api.ErrNotFound},
		{"a job without Child", p, "no", head, api.ErrState},
		{"a job with children", p, "old", head, api.ErrState},
		{"a job without Child and an error of the source", p, "no", "job", api.ErrState},
		{"a deep job without Child", p, p.Jobs[1001].ID, "job", api.ErrState},
		{"a deep job", p, deep, head, api.ErrDepth},
		{"a deep job and an error of the source", p, deep, "job", api.ErrDepth},
		{"no source", p, "gen", "", api.ErrNotFound},
		{"a source that does not end", p, "gen", "job", api.ErrTruncated},
		{"a source with a parameter", p, "gen", "pipeline \"q\" {\nparam \"x\" {\ntype = \"int\"\n}\n}\n", api.ErrNotFound},
		{"a source with a cycle", p, "gen", head + job("a", "needs = [\"a\"]"), api.ErrCycle},
		{"a source with too many jobs", p, "gen", head + jobs("x", 22) + job("A"), api.ErrInvalid},
		{"too many jobs", p, "gen", head + jobs("x", 23), api.ErrLimit},
	} {
		expectError(t, x.what, x.p, x.owner, x.src, x.want)
	}
	if q := added(t, p, "gen", head+jobs("x", 22)); len(q.Jobs) != api.MaxJobs {
		t.Errorf("a plan of %d jobs", len(q.Jobs))
	}
}

// P20.4: the longest IDs of a child pipeline. They have 324 bytes, so that none is longer than MaxPath.
func TestLongIDs(t *testing.T) {
	var parts []string
	for _, letter := range []string{"a", "b", "c", "d"} {
		parts = append(parts, strings.Repeat(letter, api.MaxName))
	}
	p := plan(t, head+job("gen", "child = true"))
	p.Jobs[0].ID = strings.Join(parts, "/")
	q := added(t, p, p.Jobs[0].ID, head+job(strings.Repeat("e", api.MaxName)))
	if id := q.Jobs[1].ID; len(id) != 324 || q.Jobs[1].Needs[0] != p.Jobs[0].ID {
		t.Errorf("%s of %d bytes", id, len(id))
	}
}

// R5: the result is new memory, and the arguments stay as they are.
func TestMemory(t *testing.T) {
	p := plan(t, head+job("gen", "child = true", "outputs = [\"o\"]")+job("end", "needs = [\"gen\"]", "labels = [\"l\"]", "uses = [\"gen/o\"]", "when = [true][0]", "step \"log\" {\n}", "cache {\nfiles = [\"f\"]\n}"))
	for i := range p.Jobs {
		p.Jobs[i].Needs = slices.Grow(p.Jobs[i].Needs, 10)
	}
	p.Jobs = slices.Grow(p.Jobs, 10)
	spare := fmt.Sprintf("%#v", p.Jobs[:cap(p.Jobs)])
	q := added(t, p, "gen", head+job("x", "outputs = [\"q\"]")+job("y", "needs = [\"x\"]", "uses = [\"x/q\"]"))
	if got := fmt.Sprintf("%#v", p.Jobs[:cap(p.Jobs)]); got != spare {
		t.Error("Child has changed its argument")
	}
	want := fmt.Sprintf("%#v", q)
	overwrite(reflect.ValueOf(p))
	if fmt.Sprintf("%#v", q) != want {
		t.Error("a plan shares memory with the one that it was made of")
	}
	seen := map[uintptr]bool{}
	if sharesMemory(reflect.ValueOf(q), seen) {
		t.Error("the lists of a plan share memory")
	}
}

// overwrite clears all lists in a value.
func overwrite(v reflect.Value) {
	switch v.Kind() {
	case reflect.Struct:
		for i := range v.NumField() {
			overwrite(v.Field(i))
		}
	case reflect.Slice:
		v = v.Slice(0, v.Cap())
		for i := range v.Len() {
			overwrite(v.Index(i))
		}
		v.Clear()
	}
}

// sharesMemory reports whether two lists in a value begin at the same place.
func sharesMemory(v reflect.Value, seen map[uintptr]bool) bool {
	shared := false
	switch v.Kind() {
	case reflect.Struct:
		for i := range v.NumField() {
			shared = sharesMemory(v.Field(i), seen) || shared
		}
	case reflect.Slice:
		if v.Cap() > 0 {
			shared = seen[v.Pointer()]
			seen[v.Pointer()] = true
		}
		for i := range v.Len() {
			shared = sharesMemory(v.Index(i), seen) || shared
		}
	}
	return shared
}

// sourceByChance returns the source of a pipeline whose jobs need earlier ones.
func sourceByChance(chance *rand.Rand, names []string) string {
	source := head
	var earlier []string
	for _, name := range names[:chance.IntN(len(names)+1)] {
		var needs []string
		for _, n := range earlier {
			if chance.IntN(2) == 0 {
				needs = append(needs, "\""+n+"\"")
			}
		}
		lines := []string{"needs = [" + strings.Join(needs, ", ") + "]", "outputs = [\"o\"]", fmt.Sprint("child = ", chance.IntN(4) > 0)}
		if chance.IntN(3) == 0 {
			lines = append(lines, fmt.Sprint("shards = ", 1+chance.IntN(3)))
		} else if len(needs) > 0 && chance.IntN(2) == 0 {
			lines = append(lines, "uses = ["+strings.TrimSuffix(needs[0], "\"")+"/o\"]")
		}
		source += job(name, lines...)
		earlier = append(earlier, name)
	}
	return source
}

// P20.4, P20.5, P20.6: child pipelines that are added by chance.
func TestChildrenByChance(t *testing.T) {
	names := []string{"a", "b10", "b9", "c", "a-1", "ab"}
	count := 0
	for seed := range uint64(600) {
		chance := rand.New(rand.NewPCG(seed, 20))
		p, _, err := compile.Pipeline(sourceByChance(chance, names), nil)
		if err != api.OK {
			continue // it uses an output of a job that is divided
		}
		for range 6 {
			if len(p.Jobs) == 0 {
				break
			}
			owner := p.Jobs[chance.IntN(len(p.Jobs))]
			chance.Shuffle(len(names), func(i, k int) { names[i], names[k] = names[k], names[i] })
			source := sourceByChance(chance, names[:4])
			child, _, err := compile.Pipeline(source, nil)
			q, err2 := dynamic.Child(p, owner.ID, source)
			switch {
			case !owner.Child || len(dynamic.Children(p, owner.ID)) > 0:
				err = api.ErrState
			case strings.Count(owner.ID, "/") >= api.MaxChildDepth:
				err = api.ErrDepth
			}
			if err != err2 {
				t.Fatalf("a child of %s in %s: %v, want %v", owner.ID, shown(p), err2, err)
			}
			if err == api.OK {
				expectChild(t, p, q, child, owner.ID)
				count++
			}
			p = q
		}
	}
	if count < 700 {
		t.Errorf("only %d child pipelines", count)
	}
}

// expectChild checks that q is p with a child pipeline, as P20.4 to P20.6 say.
func expectChild(t *testing.T, p, q, child api.Plan, owner string) {
	t.Helper()
	where := slices.IndexFunc(p.Jobs, func(j api.Job) bool { return j.ID == owner }) + 1
	n := len(child.Jobs)
	if len(q.Jobs) != len(p.Jobs)+n || compile.Valid(q) != api.OK {
		t.Fatalf("%s: %v", shown(q), compile.Valid(q))
	}
	var ids []string
	below := graph.Below(compile.Nodes(q), owner)
	for i, j := range child.Jobs {
		got := q.Jobs[where+i]
		ids = append(ids, got.ID)
		want := []string{owner}
		if len(j.Needs) > 0 {
			want = strings.Split(owner+"/"+strings.Join(j.Needs, " "+owner+"/"), " ")
		}
		if got.ID != owner+"/"+j.ID || !slices.Equal(got.Needs, want) || len(got.Uses) != len(j.Uses) || !slices.Contains(below, got.ID) {
			t.Fatalf("%s of the child is %+v", j.ID, got)
		}
	}
	for i, j := range slices.Concat(q.Jobs[:where], q.Jobs[where+n:]) {
		old := p.Jobs[i]
		want := old.Needs
		if slices.Contains(old.Needs, owner) {
			want = ident.Sorted(slices.Concat(old.Needs, ids))
		}
		if !slices.Equal(j.Needs, want) {
			t.Fatalf("%s needs %v, want %v", j.ID, j.Needs, want)
		}
		if j.Needs = old.Needs; fmt.Sprintf("%+v", j) != fmt.Sprintf("%+v", old) {
			t.Fatalf("%+v has become %+v", old, j)
		}
	}
	for _, id := range graph.Below(compile.Nodes(p), owner) {
		above := graph.Above(compile.Nodes(q), id)
		for _, c := range ids {
			if !slices.Contains(above, c) {
				t.Fatalf("%s does not depend on %s in %s", id, c, shown(q))
			}
		}
	}
}
