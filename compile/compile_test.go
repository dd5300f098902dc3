package compile_test

import (
	"fmt"
	"reflect"
	"strings"
	"testing"

	"pipeline/api"
	"pipeline/compile"
	"pipeline/condition"
	"pipeline/config"
	"pipeline/parser"
)

// head is the source of a pipeline without parameters.
const head = "pipeline \"p\" {\n}\n"

// withParams is the source of a pipeline with parameters of all kinds.
const withParams = "pipeline \"p\" {\n" +
	"param \"n\" {\ntype = \"int\"\ndefault = 7\n}\n" +
	"param \"s\" {\ntype = \"string\"\ndefault = \"str\"\n}\n" +
	"param \"b\" {\ntype = \"bool\"\ndefault = true\n}\n" +
	"param \"l\" {\ntype = \"list(string)\"\ndefault = [\"y\", \"x\", \"y\"]\n}\n" +
	"param \"m\" {\ntype = \"any\"\ndefault = {k: 1}\n}\n" +
	"param \"z\" {\ntype = \"any\"\ndefault = null\n}\n" +
	"param \"u\" {\ntype = \"string\"\ndefault = \"<${n}$$>\"\n}\n" +
	"}\n"

// block returns the source of a block.
func block(start string, lines ...string) string {
	return start + " {\n" + strings.Join(append(lines, "}\n"), "\n")
}

// job returns the source of a job.
func job(name string, lines ...string) string { return block("job \""+name+"\"", lines...) }

func number(n int) api.Value { return api.Value{Kind: api.VInt, Int: n} }

func str(s string) api.Value { return api.Value{Kind: api.VString, Str: s} }

func list(vs ...api.Value) api.Value { return api.Value{Kind: api.VList, List: vs} }

func expr(t *testing.T, source string) api.Expr {
	t.Helper()
	e, _, err := parser.Parse(source)
	if err != api.OK {
		t.Fatalf("%s: %v", source, err)
	}
	return e
}

func file(t *testing.T, source string) api.File {
	t.Helper()
	f, at, err := config.Parse(source)
	if err != api.OK {
		t.Fatalf("%.300s: %v at %d", source, err, at)
	}
	return f
}

// compiled returns the plan of a source that has one.
func compiled(t *testing.T, source string, args ...api.Var) api.Plan {
	t.Helper()
	p, at, err := compile.Pipeline(source, args)
	if err != api.OK || at != 0 {
		t.Fatalf("Pipeline of %.900s: %d, %v", source, at, err)
	}
	if err := compile.Valid(p); err != api.OK {
		t.Fatalf("the plan of %.900s is not valid: %v", source, err)
	}
	return p
}

// expectError compiles a source that config.Parse accepts, but that has no plan.
func expectError(t *testing.T, source string, want api.Errno, args ...api.Var) {
	t.Helper()
	p, at, err := compile.Pipeline(source, args)
	if err != want || at != 0 || p.Name != "" || p.Jobs != nil {
		t.Errorf("Pipeline of\n%.900s= %v, %d, %v, want %v", source, p, at, err, want)
	}
	if p, err := compile.File(file(t, source), args); err != want || p.Name != "" || p.Jobs != nil {
		t.Errorf("File of\n%.900s= %v, %v, want %v", source, p, err, want)
	}
}

// same reports whether two plans or jobs are equal, where empty lists may be nil.
func same[T any](a, b T) bool { return fmt.Sprintf("%#v", tidy(a)) == fmt.Sprintf("%#v", tidy(b)) }

// tidy returns a copy without empty lists that are not nil.
func tidy[T any](x T) T {
	copied := reflect.New(reflect.TypeFor[T]()).Elem()
	tidyInto(copied, reflect.ValueOf(x))
	return copied.Interface().(T)
}

func tidyInto(to, from reflect.Value) {
	switch {
	case from.Kind() == reflect.Struct:
		for i := range from.NumField() {
			tidyInto(to.Field(i), from.Field(i))
		}
	case from.Kind() != reflect.Slice:
		to.Set(from)
	case from.Len() > 0:
		to.Set(reflect.MakeSlice(from.Type(), from.Len(), from.Len()))
		for i := range from.Len() {
			tidyInto(to.Index(i), from.Index(i))
		}
	}
}

// plain returns a job of a plan that states nothing.
func plain(id string, needs ...string) api.Job {
	return api.Job{ID: id, Needs: needs, When: condition.Default(), Priority: 5, Cost: 1, Timeout: 3600000, Retry: api.Retry{Classes: []int{4, 5}, Base: 1000, Cap: 60000}}
}

func ids(p api.Plan) string {
	var all []string
	for _, j := range p.Jobs {
		all = append(all, j.ID)
	}
	return strings.Join(all, " ")
}

// P19.1, P19.2, P19.4: the examples of the chapter.
func TestExamples(t *testing.T) {
	p := compiled(t, "pipeline \"p\" {\n}\njob \"a\" {\n}\n")
	if want := (api.Plan{Name: "p", Jobs: []api.Job{plain("a")}}); !same(p, want) {
		t.Errorf("the plan is %+v, want %+v", p, want)
	}
	p = compiled(t, head+job("z", "needs = [\"test\"]")+job("test", block("matrix", "os = [\"linux\", \"mac\"]")))
	if got := ids(p); got != "test.1 test.2 z" || !same(p.Jobs[2], plain("z", "test.1", "test.2")) {
		t.Errorf("the jobs are %s, and the last one %+v", got, p.Jobs[2])
	}
	expectError(t, head+job("a", "needs = [\"b\"]")+job("b", "needs = [\"a\"]"), api.ErrCycle)
	expectError(t, head+job("a", "needs = [\"c\"]"), api.ErrNotFound)
	expectError(t, head+job("a", "colour = 1"), api.ErrName)
	expectError(t, head+job("a", "priority = \"high\""), api.ErrType)
	expectError(t, head+job("a", "priority = 10"), api.ErrRange)
}

// P19.1: the index belongs to the errors of config.Parse.
func TestPipelineIndex(t *testing.T) {
	for _, source := range []string{"", head, "#", "pipeline", "pipeline \"p\" {}\n", head + "job \"a\" {\nx = \n}\n", head + "job \"a\" {\nx = 1\nx = 2\n}\n", head + "job \"" + strings.Repeat("a", 65) + "\" {\n}\n", "pipeline \"p\" {\n", "\"", head + job("a", "x = (1"), strings.Repeat("a", api.MaxSource+1), "x {\ny = " + strings.Repeat("(", 20) + "1\n}\n"} {
		f, at, want := config.Parse(source)
		if want == api.OK {
			_, want = compile.File(f, nil)
			at = 0
		}
		if p, i, err := compile.Pipeline(source, nil); err != want || i != at || err != api.OK && p.Name != "" {
			t.Errorf("Pipeline of %.100q = %v, %d, %v, want %d, %v", source, p, i, err, at, want)
		}
	}
	if _, at, err := compile.Pipeline(head+"job \"a\" {\nx = \n}\n", nil); at != 31 || err != api.ErrSyntax {
		t.Errorf("an attribute without an expression: %d, %v", at, err)
	}
}

// P19.2: a pipeline without jobs, and one whose jobs have no instances.
func TestNoJobs(t *testing.T) {
	for _, source := range []string{head, head + job("a", block("matrix")), head + job("a", block("matrix", "x = []", "y = [1]"))} {
		if p := compiled(t, source); !same(p, api.Plan{Name: "p"}) {
			t.Errorf("the plan of %s is %+v", source, p)
		}
	}
	// A job without instances can be needed; its attributes are not processed.
	p := compiled(t, head+job("a", "colour = 1", "when = undefined", block("matrix"), block("colour"))+job("b", "needs = [\"a\"]"))
	if !same(p, api.Plan{Name: "p", Jobs: []api.Job{plain("b")}}) {
		t.Errorf("a job that needs no instances: %+v", p)
	}
}

// P19.2, step 3: the block that describes the pipeline.
func TestHead(t *testing.T) {
	for _, x := range []struct {
		source string
		want   api.Errno
	}{
		{"", api.ErrNotFound},
		{job("a"), api.ErrNotFound},
		{"Pipeline \"p\" {\n}\n", api.ErrNotFound},
		{block("template \"t\"", block("pipeline \"p\"")), api.ErrNotFound},
		{job("a", block("pipeline \"p\"")), api.ErrNotFound},
		{head + head, api.ErrExists},
		{head + block("pipeline"), api.ErrExists},
		{block("pipeline", "x = 1") + head, api.ErrExists},
		{block("pipeline"), api.ErrInvalid},
		{block("pipeline \"-p\""), api.ErrInvalid},
		{block("pipeline \"P\"", "x = 1"), api.ErrInvalid},
		{block("pipeline \"a/b\"", block("param")), api.ErrInvalid},
		{block("pipeline \"p\"", block("param", "type = \"int\"")), api.ErrInvalid},
		{block("pipeline \"p\"", block("param \"x\"")), api.ErrNotFound},
		{block("pipeline \"p\"", block("param \"x\"", "type = 1")), api.ErrType},
		{block("pipeline \"p\"", block("param \"x\"", "type = \"int\"", "default = 1 / 0")), api.ErrDivide},
		{block("pipeline \"p\"", "x = 1", block("param \"x\"", "kind = \"int\"")), api.ErrName},
		{block("pipeline \"p\"", "x = 1"), api.ErrSyntax},
		{block("pipeline \"p\"", block("job \"a\"")), api.ErrSyntax},
		{block("pipeline \"p\"", block("use \"t\"")) + block("template \"t\""), api.ErrSyntax},
		{block("pipeline \"p\"", block("param \"x\"", "type = \"int\""), block("step")), api.ErrSyntax},

		// A second one that a template contains is not a job.
		{head + block("template \"t\"", block("pipeline \"q\"")) + block("use \"t\""), api.ErrSyntax},
	} {
		expectError(t, x.source, x.want)
	}
	for _, name := range []string{"p", "1", "a.b-c_d", strings.Repeat("a", 64)} {
		if p := compiled(t, job("a")+block("pipeline \""+name+"\"")); !same(p, api.Plan{Name: name, Jobs: []api.Job{plain("a")}}) {
			t.Errorf("the plan is %+v", p)
		}
	}
}

// P19.2, step 4: arguments of the pipeline.
func TestArguments(t *testing.T) {
	source := block("pipeline \"p\"", block("param \"n\"", "type = \"int\""), block("param \"d\"", "type = \"string\"", "default = \"x\"")) + job("a", "cost = n", "group = d")
	for _, x := range []struct {
		args []api.Var
		want api.Errno
	}{
		{nil, api.ErrNotFound},
		{[]api.Var{{Name: "d", Value: str("y")}}, api.ErrNotFound},
		{[]api.Var{{Name: "q", Value: number(1)}}, api.ErrName},
		{[]api.Var{{Name: "n", Value: str("1")}}, api.ErrType},
		{[]api.Var{{Name: "n", Value: number(api.MaxNumber + 1)}}, api.ErrType},
		{[]api.Var{{Name: "n", Value: number(1)}, {Name: "n", Value: number(1)}}, api.ErrExists},
	} {
		expectError(t, source, x.want, x.args...)
	}
	p := compiled(t, source, api.Var{Name: "n", Value: number(3)})
	if j := p.Jobs[0]; j.Cost != 3 || j.Group != "x" || !same(j.Vars, []api.Var{{Name: "d", Value: str("x")}, {Name: "n", Value: number(3)}}) {
		t.Errorf("the job is %+v", j)
	}
	p = compiled(t, source, api.Var{Name: "d", Value: str("g")}, api.Var{Name: "n", Value: number(4)})
	if j := p.Jobs[0]; j.Cost != 4 || j.Group != "g" {
		t.Errorf("the job is %+v", j)
	}
}

// P19.2, step 5: templates are expanded with the values of the parameters.
func TestTemplates(t *testing.T) {
	source := withParams +
		block("template \"t\"", block("param \"k\"", "type = \"int\""), "cost = k", block("step \"log\"", "text = \"${k} ${n}\"")) +
		block("template \"jobs\"", block("param \"name\"", "type = \"string\""), block("job \"${name}1\"", "labels = [name]"), block("job \"${name}2\"", "needs = [\"${name}1\"]")) +
		job("b", block("use \"t\"", "k = n + 1")) + block("use \"jobs\"", "name = s")
	p := compiled(t, source)
	if got := ids(p); got != "b str1 str2" {
		t.Fatalf("the jobs are %s", got)
	}
	if j := p.Jobs[0]; j.Cost != 8 || !same(j.Steps, []api.Step{{Op: api.StepLog, Text: "8 7"}}) {
		t.Errorf("a job with a use: %+v", j)
	}
	if j, k := p.Jobs[1], p.Jobs[2]; !same(j.Labels, []string{"str"}) || !same(k.Needs, []string{"str1"}) {
		t.Errorf("jobs of a template: %+v, %+v", j, k)
	}
	expectError(t, head+block("use \"t\""), api.ErrNotFound)
	expectError(t, head+block("template \"t\"", "x = 1")+block("use \"t\""), api.ErrInvalid)
	expectError(t, head+block("template \"t\"", block("param \"k\"", "type = \"int\""))+job("a", block("use \"t\"", "k = undefined")), api.ErrName)
	expectError(t, head+block("template \"t\"")+block("template \"t\""), api.ErrExists)
	expectError(t, head+block("template \"T\""), api.ErrInvalid)
}

// P19.2, step 6: what may stand at the top level.
func TestTopLevel(t *testing.T) {
	for _, x := range []struct {
		blocks string
		want   api.Errno
	}{
		{block("step"), api.ErrSyntax},
		{block("param \"x\"", "type = \"int\""), api.ErrSyntax},
		{block("Job \"a\""), api.ErrSyntax},
		{block("jobs \"A\""), api.ErrSyntax},
		{block("template \"t\"", block("template \"u\"")) + block("use \"t\""), api.ErrSyntax},
		{block("job"), api.ErrInvalid},
		{job("A"), api.ErrInvalid},
		{job("a.b"), api.ErrInvalid},
		{job("a."), api.ErrInvalid},
		{job("a/b"), api.ErrInvalid},
		{job("${x}"), api.ErrInvalid},
		{job("a") + job("a"), api.ErrExists},
		{job("a") + job("b") + job("a"), api.ErrExists},
		{job("a", block("matrix")) + job("a"), api.ErrExists},

		// Block by block, and before what is in the jobs.
		{job("a.b") + block("step"), api.ErrInvalid},
		{block("step") + job("a.b"), api.ErrSyntax},
		{job("a") + job("a") + block("step"), api.ErrExists},
		{job("a", "x = 1") + job("a"), api.ErrExists},
		{job("a", "x = 1") + job("a.b"), api.ErrInvalid},
		{job("a", "x = 1") + job("b", "priority = 1 / 0"), api.ErrName},
		{job("a", "priority = 1 / 0") + job("b", "x = 1"), api.ErrDivide},
	} {
		expectError(t, head+x.blocks, x.want)
	}
	for _, name := range []string{"a", "0", "a-b_c", strings.Repeat("b", 64)} {
		if p := compiled(t, head+job(name)); !same(p.Jobs, []api.Job{plain(name)}) {
			t.Errorf("the job %s: %+v", name, p.Jobs)
		}
	}
}

// fault is something that makes a file invalid at a step: it changes the source, or the file, or adds an argument.
type fault struct {
	want   api.Errno
	source string
	change func(f *api.File)
	args   []api.Var
}

// faults has one of each step of File, with different errors.
func faults() []fault {
	deep := api.Block{Kind: "a"}
	for range api.MaxDepth {
		deep = api.Block{Kind: "a", Blocks: []api.Block{deep}}
	}
	return []fault{
		{want: api.ErrDepth, change: func(f *api.File) { f.Blocks = append(f.Blocks, deep) }},
		{want: api.ErrExists, source: block("template \"t\"") + block("template \"t\"")},
		{want: api.ErrInvalid, change: func(f *api.File) { f.Blocks[0].Name = "P" }},
		{want: api.ErrType, args: []api.Var{{Name: "n", Value: str("1")}}},
		{want: api.ErrDivide, source: block("template \"d\"", block("param \"k\"", "type = \"any\"")) + job("d", block("use \"d\"", "k = 1 / 0"))},
		{want: api.ErrSyntax, source: block("step")},
		{want: api.ErrName, source: job("name", "colour = 1")},
		{want: api.ErrNotFound, source: job("need", "needs = [\"none\"]")},
		{want: api.ErrCycle, source: job("cycle", "needs = [\"cycle\"]")},
		{want: api.ErrRange, source: job("range", "cost = 0")},
	}
}

// P19.2: the steps are in order: of two errors the one of the earlier step is returned.
func TestStepsInOrder(t *testing.T) {
	try := func(want api.Errno, chosen ...fault) {
		source, args := withParams, []api.Var(nil)
		for _, x := range chosen {
			source += x.source
			args = append(args, x.args...)
		}
		f := file(t, source)
		for _, x := range chosen {
			if x.change != nil {
				x.change(&f)
			}
		}
		if p, err := compile.File(f, args); err != want || p.Jobs != nil {
			t.Errorf("File of\n%s= %v, %v, want %v", source, p, err, want)
		}
	}
	all := faults()
	for i, x := range all {
		try(x.want, x)
		for _, y := range all[i+1:] {
			try(x.want, x, y)
			try(x.want, y, x)
		}
	}
}

// P19.2, step 8: what the elements of needs stand for.
func TestNeeds(t *testing.T) {
	rest := job("one") + job("m", block("matrix", "x = [1, 2]")) + job("s", "shards = 2") + job("ms", "shards = 2", block("matrix", "x = [1, 2]")) + job("none", block("matrix"))
	for _, x := range []struct{ needs, want string }{
		{"", ""},
		{"one", "one"},
		{"m", "m.1 m.2"},
		{"s", "s.1 s.2"},
		{"ms", "ms.1.1 ms.1.2 ms.2.1 ms.2.2"},
		{"none", ""},
		{"m.2", "m.2"},
		{"s.1", "s.1"},
		{"ms.2.1", "ms.2.1"},
		{"m.2 one m.1", "m.1 m.2 one"},
		{"m m m.1 one one", "m.1 m.2 one"},
		{"s none one m.2 none", "m.2 one s.1 s.2"},
	} {
		var needs, want []string
		for _, name := range strings.Fields(x.needs) {
			needs = append(needs, "\""+name+"\"")
		}
		want = strings.Fields(x.want)
		p := compiled(t, head+job("z", "needs = ["+strings.Join(needs, ", ")+"]")+rest)
		if j, ok := compile.Find(p, "z"); !ok || !same(j, plain("z", want...)) {
			t.Errorf("needs %s gives %+v", x.needs, j)
		}
	}
	for _, name := range []string{"", "two", "z.1", "m.0", "m.3", "m.01", "m.", "s.3", "ms.1", "ms.1.3", "one.1", "none.1", "p", "One", "m.1.1"} {
		expectError(t, head+job("z", "needs = [\"one\", \""+name+"\"]")+rest, api.ErrNotFound)
	}
	for _, x := range []string{job("a", "needs = [\"a\"]"), job("a", "needs = [\"a.2\"]", block("matrix", "x = [1, 2]")), job("a", "shards = 2", "needs = [\"b\"]") + job("b", "needs = [\"a.1\"]")} {
		expectError(t, head+x, api.ErrCycle)
	}

	// Instances may need different jobs, and each other.
	p := compiled(t, head+job("a", "needs = x == 1 ? [] : [\"a.${x - 1}\"]", block("matrix", "x = [1, 2, 3]")))
	if !same(p.Jobs[0].Needs, nil) || !same(p.Jobs[1].Needs, []string{"a.1"}) || !same(p.Jobs[2].Needs, []string{"a.2"}) {
		t.Errorf("a chain of instances: %+v", p)
	}
}

// P19.2, step 9: the order of the jobs, and IDs that are no paths.
func TestOrder(t *testing.T) {
	p := compiled(t, head+job("j10")+job("j2")+job("a", "needs = [\"j2\"]")+job("z")+job("j9", "needs = [\"z\"]"))
	if got := ids(p); got != "j2 a j10 z j9" {
		t.Errorf("the order is %s", got)
	}
	p = compiled(t, head+job("b", block("matrix", "x = [1, 2, 3, 4, 5, 6, 7, 8, 9, 10]"))+job("a", "shards = 2", "needs = [\"b.1\"]"))
	if got := ids(p); got != "b.1 a.1 a.2 b.2 b.3 b.4 b.5 b.6 b.7 b.8 b.9 b.10" {
		t.Errorf("the order is %s", got)
	}
	compiled(t, head+job(strings.Repeat("a", 62), "shards = 9"))
	expectError(t, head+job(strings.Repeat("a", 62), "shards = 10"), api.ErrInvalid)
	expectError(t, head+job(strings.Repeat("a", 62), "shards = 10", "needs = [\"a\"]"), api.ErrNotFound)
	expectError(t, head+job(strings.Repeat("a", 62), "shards = 10", "needs = [\"b\"]")+job("b", "needs = [\"b\"]"), api.ErrInvalid)
	expectError(t, head+job(strings.Repeat("a", 62), "shards = 10", "cost = 0"), api.ErrInvalid)
	expectError(t, head+job(strings.Repeat("a", 61), block("matrix", "x = [1]"), "shards = 1"), api.ErrInvalid)
}

// P19.7: Find and Nodes, also of plans that are not valid.
func TestFindAndNodes(t *testing.T) {
	p := api.Plan{Jobs: []api.Job{plain("b", "a", "c"), plain("a"), {ID: "a", Cost: 2}, {ID: "", Cost: 3}, {ID: "c", Needs: []string{"z", "y", "y"}}}}
	for _, x := range []struct {
		id   string
		want int
	}{{"b", 0}, {"a", 1}, {"", 3}, {"c", 4}} {
		if j, ok := compile.Find(p, x.id); !ok || !same(j, p.Jobs[x.want]) {
			t.Errorf("Find of %q = %+v, %v", x.id, j, ok)
		}
	}
	for _, id := range []string{"d", "B", "a.1", "z"} {
		if j, ok := compile.Find(p, id); ok || !same(j, api.Job{}) {
			t.Errorf("Find of %q = %+v, %v", id, j, ok)
		}
	}
	want := []api.Node{{ID: "b", Needs: []string{"a", "c"}}, {ID: "a"}, {ID: "a"}, {ID: ""}, {ID: "c", Needs: []string{"z", "y", "y"}}}
	if got := compile.Nodes(p); !same(got, want) {
		t.Errorf("Nodes = %v", got)
	}
	if got := compile.Nodes(api.Plan{Name: "p"}); len(got) != 0 {
		t.Errorf("Nodes of no jobs = %v", got)
	}
	if j, ok := compile.Find(api.Plan{}, ""); ok || !same(j, api.Job{}) {
		t.Errorf("Find in no jobs = %v, %v", j, ok)
	}
}
