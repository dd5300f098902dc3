package clone_test

import (
	"reflect"
	"testing"

	"pipeline/api"
	"pipeline/clone"
)

// sample returns a block in which every list that a copy has to copy has elements.
func sample() api.Block {
	v := api.Value{Kind: api.VMap, Keys: []string{"k"}, List: []api.Value{{Kind: api.VList, List: []api.Value{{Kind: api.VInt, Int: 1}}}}}
	lit := api.Expr{Kind: api.ELit, Value: v}
	dict := api.Expr{Kind: api.EMap, Keys: []string{"a"}, Args: []api.Expr{lit}}
	inner := api.Block{Kind: "inner", Name: "i", Attrs: []api.Attr{{Name: "y", Expr: dict}}}
	return api.Block{Kind: "outer", Name: "o", Attrs: []api.Attr{{Name: "x", Expr: dict}}, Blocks: []api.Block{inner, {Kind: "empty"}}}
}

// overwrite changes everything in a block that memory holds which a copy could share.
func overwrite(b api.Block) {
	for i := range b.Attrs {
		overwriteExpr(b.Attrs[i].Expr)
		b.Attrs[i] = api.Attr{}
	}
	for i := range b.Blocks {
		overwrite(b.Blocks[i])
		b.Blocks[i] = api.Block{}
	}
}

func overwriteExpr(e api.Expr) {
	overwriteValue(e.Value)
	clear(e.Keys)
	for i := range e.Args {
		overwriteExpr(e.Args[i])
		e.Args[i] = api.Expr{}
	}
}

func overwriteValue(v api.Value) {
	clear(v.Keys)
	for i := range v.List {
		overwriteValue(v.List[i])
		v.List[i] = api.Value{}
	}
}

// R5: copies are equal to what they are made of, and share no memory with it.
func TestCopies(t *testing.T) {
	b := sample()
	block, attr, expr, value := clone.Block(b), clone.Attr(b.Attrs[0]), clone.Expr(b.Attrs[0].Expr), clone.Value(b.Attrs[0].Expr.Args[0].Value)
	variable := clone.Var(api.Var{Name: "v", Value: b.Attrs[0].Expr.Args[0].Value})
	overwrite(b)
	want := sample()
	if !reflect.DeepEqual(block, want) {
		t.Errorf("Block = %v, want %v", block, want)
	}
	if !reflect.DeepEqual(attr, want.Attrs[0]) {
		t.Errorf("Attr = %v, want %v", attr, want.Attrs[0])
	}
	if !reflect.DeepEqual(expr, want.Attrs[0].Expr) {
		t.Errorf("Expr = %v, want %v", expr, want.Attrs[0].Expr)
	}
	if !reflect.DeepEqual(value, want.Attrs[0].Expr.Args[0].Value) {
		t.Errorf("Value = %v", value)
	}
	if !reflect.DeepEqual(variable, api.Var{Name: "v", Value: want.Attrs[0].Expr.Args[0].Value}) {
		t.Errorf("Var = %v", variable)
	}
}

// sampleJob returns a job in which every list that a copy has to copy has elements.
func sampleJob() api.Job {
	b := sample()
	return api.Job{
		ID: "a", Needs: []string{"b"}, When: b.Attrs[0].Expr, Vars: []api.Var{{Name: "v", Value: b.Blocks[0].Attrs[0].Expr.Args[0].Value}}, Steps: []api.Step{{Op: 1}},
		Labels: []string{"l"}, Group: "g", Retry: api.Retry{Max: 1, Classes: []int{1}}, Inputs: []string{"i"}, Uses: []string{"u"}, Outputs: []string{"o"},
		Caches: []api.CacheSpec{{Key: "k", Restore: []string{"r"}, Files: []string{"f"}}}, Secrets: []string{"s"}, HasGate: true,
		Gate: api.GateSpec{Approvals: 1, Approvers: []string{"x"}, Expiry: 2}, Tests: []string{"t"}, Shard: 1, Shards: 2,
	}
}

// R5: a copy of a job is equal to it, and shares no memory with it.
func TestJob(t *testing.T) {
	j := sampleJob()
	job, cache := clone.Job(j), clone.Cache(j.Caches[0])
	overwriteExpr(j.When)
	overwriteValue(j.Vars[0].Value)
	clear(j.Caches[0].Restore)
	clear(j.Caches[0].Files)
	for _, names := range [][]string{j.Needs, j.Labels, j.Inputs, j.Uses, j.Outputs, j.Secrets, j.Gate.Approvers, j.Tests} {
		clear(names)
	}
	clear(j.Vars)
	clear(j.Steps)
	clear(j.Caches)
	clear(j.Retry.Classes)
	want := sampleJob()
	if !reflect.DeepEqual(job, want) {
		t.Errorf("Job = %+v, want %+v", job, want)
	}
	if !reflect.DeepEqual(cache, want.Caches[0]) {
		t.Errorf("Cache = %+v", cache)
	}
	if j := clone.Job(api.Job{}); !reflect.DeepEqual(j, api.Job{}) {
		t.Errorf("Job = %+v", j)
	}
}

func TestCopiesOfNothing(t *testing.T) {
	if b := clone.Block(api.Block{}); !reflect.DeepEqual(b, api.Block{}) {
		t.Errorf("Block = %v", b)
	}
	if e := clone.Expr(api.Expr{}); !reflect.DeepEqual(e, api.Expr{}) {
		t.Errorf("Expr = %v", e)
	}
}

func TestList(t *testing.T) {
	list := []int{1, 2, 3}
	double := clone.List(list, func(n int) int { return 2 * n })
	if !reflect.DeepEqual(double, []int{2, 4, 6}) || !reflect.DeepEqual(list, []int{1, 2, 3}) {
		t.Errorf("List = %v of %v", double, list)
	}
}

// sampleSched returns a state of a scheduler in which every list that a copy has to copy has elements.
func sampleSched() api.Sched {
	return api.Sched{
		Queue:    []api.Pending{{Ref: api.JobRef{Run: "r", Job: "j"}, Project: "p", Cost: 1, Labels: []string{"l"}, Group: "g"}, {}},
		Shares:   []api.Share{{Project: "p", Weight: 1, Served: 2}},
		Accounts: []api.Account{{Project: "p", Bucket: api.Bucket{Rate: 1, Burst: 2, Level: 3, At: 4}}},
		Groups:   []api.Group{{Name: "g", Running: api.JobRef{Run: "r"}, Waiting: []api.JobRef{{Job: "w"}}}, {}},
		Workers:  []api.Worker{{ID: "w", Labels: []string{"l"}, Slots: 2, Preemptible: true, Beat: 5, Tokens: []int{6}}, {}},
	}
}

// R5: a copy of the state of a scheduler is equal to it, and shares no memory with it.
func TestSched(t *testing.T) {
	s := sampleSched()
	sched, pending, group, worker := clone.Sched(s), clone.Pending(s.Queue[0]), clone.Group(s.Groups[0]), clone.Worker(s.Workers[0])
	clear(s.Queue[0].Labels)
	clear(s.Groups[0].Waiting)
	clear(s.Workers[0].Labels)
	clear(s.Workers[0].Tokens)
	clear(s.Queue)
	clear(s.Shares)
	clear(s.Accounts)
	clear(s.Groups)
	clear(s.Workers)
	want := sampleSched()
	if !reflect.DeepEqual(sched, want) {
		t.Errorf("Sched = %+v, want %+v", sched, want)
	}
	if !reflect.DeepEqual(pending, want.Queue[0]) || !reflect.DeepEqual(group, want.Groups[0]) || !reflect.DeepEqual(worker, want.Workers[0]) {
		t.Errorf("Pending = %+v, Group = %+v, Worker = %+v", pending, group, worker)
	}
	if s := clone.Sched(api.Sched{}); !reflect.DeepEqual(s, api.Sched{}) {
		t.Errorf("Sched = %+v", s)
	}
}
