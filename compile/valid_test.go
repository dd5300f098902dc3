package compile_test

import (
	"fmt"
	"strings"
	"testing"

	"pipeline/api"
	"pipeline/compile"
)

// sound returns a valid plan, whose last job uses everything that a job can have.
func sound(t *testing.T) api.Plan {
	base, mid, side, j := plain("base"), plain("mid", "base"), plain("side"), plain("sub/full", "mid")
	base.Outputs, mid.Outputs, side.Outputs = []string{"o", "o2", "o10"}, []string{"m"}, []string{"o"}
	j.When = expr(t, "success && n == 1")
	j.Vars = []api.Var{{Name: "n", Value: number(1)}, {Name: "l", Value: list(str("a"))}}
	j.Steps = []api.Step{{Op: api.StepLog, Text: "x"}, {Op: api.StepMemo, N: 1}}
	j.Labels = []string{"a1", "a10", "os=x y"}
	j.Group, j.Policy, j.Priority, j.Cost, j.Timeout = "g/h", 2, 9, 7, 9
	j.Retry = api.Retry{Max: 1, Classes: []int{1, 7}, Base: 5, Cap: 6}
	j.Inputs = []string{"b", "a*", "b"}
	j.Uses = []string{"base/o", "base/o10", "mid/m"}
	j.Outputs, j.Secrets = []string{"x", "y"}, []string{"s", "t"}
	j.Caches = []api.CacheSpec{{Key: "${undefined}", Restore: []string{"r", ""}, Files: []string{"*"}}, {}}
	j.Environment = "prod"
	j.HasGate, j.Gate = true, api.GateSpec{Approvals: 1, Approvers: []string{"ann", "bob"}, Expiry: 10}
	j.Tests = []string{"t/2", "t/10"}
	j.Shard, j.Shards = 2, 3
	p := api.Plan{Name: "p", Jobs: []api.Job{base, mid, side, j}}
	if err := compile.Valid(p); err != api.OK {
		t.Fatal(err)
	}
	return p
}

// change is a change of the last job of a sound plan.
type change struct {
	name   string
	change func(j *api.Job)
	want   api.Errno
}

func repeated(s string, n int) string { return strings.Repeat(s, n) }

// numberedNames returns ascending identifiers.
func numberedNames(n int) []string {
	var names []string
	for i := range n {
		names = append(names, fmt.Sprint("n", i))
	}
	return names
}

func steps(n int, s api.Step) []api.Step {
	var all []api.Step
	for range n {
		all = append(all, s)
	}
	return all
}

// invalidJobs has changes in the order of P19.6, with their numbers there.
func invalidJobs() []change {
	deep := number(1)
	for range api.MaxDepth {
		deep = list(deep)
	}
	name := func(s string) api.Expr { return api.Expr{Kind: api.EName, Name: s} }
	step := func(s api.Step) func(j *api.Job) { return func(j *api.Job) { j.Steps = append(j.Steps, s) } }
	strs := func(names ...string) []string { return names }
	all := []change{
		{"1 no ID", func(j *api.Job) { j.ID = "" }, api.ErrInvalid},
		{"1 no path", func(j *api.Job) { j.ID = "a//b" }, api.ErrInvalid},
		{"1 a long ID", func(j *api.Job) { j.ID = repeated("a/", 256) + "a" }, api.ErrInvalid},
		{"1 the same ID", func(j *api.Job) { j.ID = "side" }, api.ErrExists},
		{"2 not ascending", func(j *api.Job) { j.Needs = strs("mid", "base") }, api.ErrInvalid},
		{"2 twice", func(j *api.Job) { j.Needs = strs("mid", "mid", "none") }, api.ErrInvalid},
		{"2 no job", func(j *api.Job) { j.Needs = strs("mid", "none") }, api.ErrNotFound},
		{"2 itself", func(j *api.Job) { j.Needs = strs("mid", "sub/full") }, api.ErrNotFound},
		{"3 many variables", func(j *api.Job) { j.Vars = make([]api.Var, api.MaxList+1) }, api.ErrTooLong},
		{"3 a variable", func(j *api.Job) { j.Vars[0].Name = "a b" }, api.ErrInvalid},
		{"3 a value", func(j *api.Job) { j.Vars[0].Value = deep }, api.ErrDepth},
		{"3 two variables", func(j *api.Job) { j.Vars[1].Name = "n" }, api.ErrExists},
		{"3 an expression", func(j *api.Job) { j.When = name("true") }, api.ErrInvalid},
		{"3 no expression", func(j *api.Job) { j.When = api.Expr{} }, api.ErrInvalid},
		{"3 a name", func(j *api.Job) { j.When = name("undefined") }, api.ErrName},
		{"3 an int", func(j *api.Job) { j.When = name("n") }, api.ErrType},
		{"3 a list", func(j *api.Job) { j.When = name("l") }, api.ErrType},
		{"3 a summary", func(j *api.Job) { j.Vars[0].Name = "failure" }, api.ErrExists},
		{"4 steps", func(j *api.Job) { j.Steps = steps(api.MaxSteps+1, api.Step{}) }, api.ErrLimit},
		{"4 no operation", step(api.Step{N: -1}), api.ErrInvalid},
		{"4 an operation", step(api.Step{Op: api.StepOps, N: -1}), api.ErrInvalid},
		{"4 a negative operation", step(api.Step{Op: -1}), api.ErrInvalid},
		{"4 a negative number", step(api.Step{Op: api.StepTest, N: -1, Name: repeated("x", api.MaxSource+1)}), api.ErrRange},
		{"4 a number", step(api.Step{Op: api.StepSleep, N: api.MaxTime + 1}), api.ErrRange},
		{"4 no such cache", step(api.Step{Op: api.StepMemo, N: 2, Text: repeated("x", api.MaxSource+1)}), api.ErrRange},
		{"4 a long name", step(api.Step{Op: api.StepLog, Name: repeated("x", api.MaxSource+1)}), api.ErrTooLong},
		{"4 a long text", step(api.Step{Op: api.StepLog, Text: repeated("x", api.MaxSource+1)}), api.ErrTooLong},
		{"5 not ascending", func(j *api.Job) { j.Labels = append(strs("n1", "n0"), numberedNames(40)...) }, api.ErrInvalid},
		{"5 labels", func(j *api.Job) { j.Labels = append([]string{""}, numberedNames(api.MaxLabels)...) }, api.ErrLimit},
		{"5 no label", func(j *api.Job) { j.Labels = strs("", "a") }, api.ErrInvalid},
		{"5 a long label", func(j *api.Job) { j.Labels = strs(repeated("A", 65)) }, api.ErrInvalid},
		{"6 a group", func(j *api.Job) { j.Group, j.Policy = "G", -1 }, api.ErrInvalid},
		{"6 a long group", func(j *api.Job) { j.Group = repeated("a/", 256) + "a" }, api.ErrInvalid},
	}
	for _, n := range []int{-1, 3} {
		all = append(all, change{"6 policy", func(j *api.Job) { j.Policy = n }, api.ErrRange})
	}
	for _, n := range []int{-1, 10} {
		all = append(all, change{"6 priority", func(j *api.Job) { j.Priority = n }, api.ErrRange})
	}
	for _, n := range []int{-1, 0, api.MaxCost + 1} {
		all = append(all, change{"6 cost", func(j *api.Job) { j.Cost = n }, api.ErrRange})
	}
	for _, n := range []int{-1, 0, api.MaxTime + 1} {
		all = append(all, change{"6 timeout", func(j *api.Job) { j.Timeout = n }, api.ErrRange})
	}
	for _, n := range []int{-1, api.MaxAttempts} {
		all = append(all, change{"7 max", func(j *api.Job) { j.Retry.Max = n; j.Retry.Classes = []int{0} }, api.ErrRange})
	}
	for _, n := range []int{-1, api.MaxTime + 1} {
		all = append(all, change{"7 base", func(j *api.Job) { j.Retry.Base = n; j.Retry.Classes = []int{0} }, api.ErrRange})
		all = append(all, change{"7 cap", func(j *api.Job) { j.Retry.Cap = n; j.Retry.Classes = []int{0} }, api.ErrRange})
	}
	for _, classes := range [][]int{{0}, {-1}, {8}, {1, 1}, {2, 1}, {1, 2, 9}} {
		all = append(all, change{"7 classes", func(j *api.Job) { j.Retry.Classes = classes }, api.ErrInvalid})
	}
	return append(all, invalidEnds()...)
}

// invalidEnds has the changes from condition 8 on.
func invalidEnds() []change {
	strs := func(names ...string) []string { return names }
	uses := func(names ...string) func(j *api.Job) { return func(j *api.Job) { j.Uses = names } }
	gate := func(approvals int, approvers []string, expiry int) func(j *api.Job) {
		return func(j *api.Job) { j.Gate = api.GateSpec{Approvals: approvals, Approvers: approvers, Expiry: expiry} }
	}
	none := func(g api.GateSpec) func(j *api.Job) { return func(j *api.Job) { j.HasGate, j.Gate = false, g } }
	return []change{
		{"8 a long pattern", func(j *api.Job) { j.Inputs = strs("*", repeated("a", api.MaxString+1), "[") }, api.ErrTooLong},
		{"8 no pattern", func(j *api.Job) { j.Inputs = strs("*", "[", repeated("a", api.MaxString+1)) }, api.ErrSyntax},
		{"9 not ascending", uses("none/x", "base/o"), api.ErrInvalid},
		{"9 twice", uses("base/o", "base/o"), api.ErrInvalid},
		{"9 no job", uses("base/o", "none/o"), api.ErrNotFound},
		{"9 no output", uses("base/o3"), api.ErrNotFound},
		{"9 no slash", uses("base"), api.ErrNotFound},
		{"9 nothing", uses(""), api.ErrNotFound},
		{"9 no name", uses("base/"), api.ErrNotFound},
		{"9 no dependency", uses("side/o"), api.ErrNotFound},
		{"9 its own", uses("sub/full/x"), api.ErrNotFound},
		{"9 of another job", uses("base/m"), api.ErrNotFound},
		{"9 two slashes", uses("base//o"), api.ErrNotFound},
		{"9 more", uses("base/o/o"), api.ErrNotFound},
		{"10 outputs", func(j *api.Job) { j.Outputs = strs("y", "x") }, api.ErrInvalid},
		{"10 an output", func(j *api.Job) { j.Outputs = strs("x", "y/z") }, api.ErrInvalid},
		{"10 equal outputs", func(j *api.Job) { j.Outputs = strs("x", "x") }, api.ErrInvalid},
		{"10 secrets", func(j *api.Job) { j.Secrets = strs("t", "s") }, api.ErrInvalid},
		{"10 a secret", func(j *api.Job) { j.Secrets = strs("", "s") }, api.ErrInvalid},
		{"11 a key", func(j *api.Job) { j.Caches[0] = api.CacheSpec{Key: "${", Restore: strs("${1 2}")} }, api.ErrTruncated},
		{"11 a long key", func(j *api.Job) { j.Caches[1].Key = repeated("a", api.MaxString+1) }, api.ErrTooLong},
		{"11 a prefix", func(j *api.Job) { j.Caches[0].Restore[1] = "${1 2}" }, api.ErrSyntax},
		{"11 a long prefix", func(j *api.Job) {
			j.Caches[0].Restore[0] = repeated("a", api.MaxString+1)
			j.Caches[0].Files[0] = "["
		}, api.ErrTooLong},
		{"11 files", func(j *api.Job) { j.Caches[1].Files = strs("a", "[") }, api.ErrSyntax},
		{"12 an environment", func(j *api.Job) { j.Environment = "a/b" }, api.ErrInvalid},
		{"12 a long environment", func(j *api.Job) { j.Environment = repeated("a", 65) }, api.ErrInvalid},
		{"13 approvers", gate(0, strs("bob", "ann"), 1), api.ErrInvalid},
		{"13 an approver", gate(0, strs("Ann", "bob"), 1), api.ErrInvalid},
		{"13 no approvals", gate(0, strs("ann", "bob"), 1), api.ErrRange},
		{"13 more approvals", gate(3, strs("ann", "bob"), 1), api.ErrRange},
		{"13 no approvers", gate(0, nil, 1), api.ErrRange},
		{"13 many approvers", gate(1, numberedNames(api.MaxApprovers+1), 1), api.ErrRange},
		{"13 no expiry", gate(1, strs("ann"), 0), api.ErrRange},
		{"13 a long expiry", gate(1, strs("ann"), api.MaxTime+1), api.ErrRange},
		{"13 no gate with approvals", none(api.GateSpec{Approvals: 1}), api.ErrInvalid},
		{"13 no gate with approvers", none(api.GateSpec{Approvers: strs("ann")}), api.ErrInvalid},
		{"13 no gate with an expiry", none(api.GateSpec{Expiry: 1}), api.ErrInvalid},
		{"14 tests", func(j *api.Job) { j.Tests = strs("t/10", "t/2") }, api.ErrInvalid},
		{"14 a test", func(j *api.Job) { j.Tests, j.Shards = strs("t/", "u"), 65 }, api.ErrInvalid},
		{"14 a long test", func(j *api.Job) { j.Tests = strs(repeated("a/", 256) + "a") }, api.ErrInvalid},
		{"14 shards", func(j *api.Job) { j.Shards = api.MaxShards + 1 }, api.ErrRange},
		{"14 negative shards", func(j *api.Job) { j.Shards, j.Shard = -1, -1 }, api.ErrRange},
		{"14 no shard", func(j *api.Job) { j.Shard = 0 }, api.ErrRange},
		{"14 a negative shard", func(j *api.Job) { j.Shard = -1 }, api.ErrRange},
		{"14 another shard", func(j *api.Job) { j.Shard = 4 }, api.ErrRange},
		{"14 a shard without shards", func(j *api.Job) { j.Shards, j.Shard = 0, 1 }, api.ErrRange},
	}
}

// P19.6: the conditions, and their order: of two errors that of the earlier condition is returned.
func TestInvalid(t *testing.T) {
	number := func(c change) int {
		var n int
		fmt.Sscan(c.name, &n)
		return n
	}
	all := invalidJobs()
	for i, x := range all {
		p := sound(t)
		x.change(&p.Jobs[3])
		if err := compile.Valid(p); err != x.want {
			t.Errorf("%s: %v, want %v", x.name, err, x.want)
		}
		for _, y := range all[i+1:] {
			if number(y) == number(x) {
				continue
			}
			p := sound(t)
			y.change(&p.Jobs[3])
			x.change(&p.Jobs[3])
			if err := compile.Valid(p); err != x.want {
				t.Errorf("%s and %s: %v, want %v", x.name, y.name, err, x.want)
			}
		}
		// An earlier job determines the error.
		p = sound(t)
		x.change(&p.Jobs[3])
		p.Jobs[2].Shard = 1
		if err := compile.Valid(p); err != api.ErrRange {
			t.Errorf("%s after another error: %v", x.name, err)
		}
		p.Name = ""
		if err := compile.Valid(p); err != api.ErrInvalid {
			t.Errorf("%s in a plan without a name: %v", x.name, err)
		}
	}
}

// P19.6: what is just permitted.
func TestLimits(t *testing.T) {
	gate := func(approvals, approvers, expiry int) func(j *api.Job) {
		return func(j *api.Job) {
			j.Gate = api.GateSpec{Approvals: approvals, Approvers: numberedNames(approvers), Expiry: expiry}
		}
	}
	long := repeated(repeated("a", 63)+"/", 7) + repeated("b", 64)
	for i, change := range []func(j *api.Job){
		func(j *api.Job) { j.ID = long },
		func(j *api.Job) { j.Needs, j.Uses = nil, nil },
		func(j *api.Job) { j.Needs = []string{"base", "mid", "side"} },
		func(j *api.Job) { j.Needs, j.Uses = []string{"base", "mid", "side"}, []string{"base/o", "side/o"} },
		func(j *api.Job) { j.Uses = nil },
		func(j *api.Job) { j.Uses = []string{"base/o", "base/o2", "base/o10"} },
		func(j *api.Job) { j.Vars[0], j.Vars[1] = j.Vars[1], j.Vars[0] },
		func(j *api.Job) { j.When = expr(t, "l[n] == 1 / 0 || failure") },
		func(j *api.Job) { j.When = expr(t, "default([][0], true)") },
		func(j *api.Job) { j.Steps = steps(api.MaxSteps, j.Steps[1]) },
		func(j *api.Job) { j.Steps, j.Caches = j.Steps[:1], nil },
		func(j *api.Job) {
			j.Steps[0] = api.Step{Op: api.StepSleep, N: api.MaxTime, Name: repeated("x", api.MaxSource), Text: repeated("\x00", api.MaxSource)}
		},
		func(j *api.Job) { j.Steps[0] = api.Step{Op: api.StepChild} },
		func(j *api.Job) { j.Labels = numberedNames(api.MaxLabels) },
		func(j *api.Job) { j.Labels = []string{" ", repeated("\xff", api.MaxName)} },
		func(j *api.Job) { j.Labels = nil },
		func(j *api.Job) { j.Group = long },
		func(j *api.Job) { j.Group = "" },
		func(j *api.Job) { j.Policy, j.Priority, j.Cost, j.Timeout = 0, 0, 1, 1 },
		func(j *api.Job) { j.Policy, j.Priority, j.Cost, j.Timeout = 2, 9, api.MaxCost, api.MaxTime },
		func(j *api.Job) { j.Retry = api.Retry{} },
		func(j *api.Job) {
			j.Retry = api.Retry{Max: api.MaxAttempts - 1, Classes: []int{1, 2, 3, 4, 5, 6, 7}, Base: api.MaxTime, Cap: api.MaxTime}
		},
		func(j *api.Job) { j.Inputs = []string{repeated("a", api.MaxString), ""} },
		func(j *api.Job) { j.Outputs, j.Secrets = nil, nil },
		func(j *api.Job) { j.Outputs, j.Secrets = numberedNames(2000), numberedNames(2000) },
		func(j *api.Job) { j.Caches[0] = api.CacheSpec{Key: repeated("a", api.MaxString)} },
		func(j *api.Job) { j.Environment = "" },
		func(j *api.Job) { j.Environment = repeated("e", 64) },
		gate(1, 1, 1), gate(2, 2, api.MaxTime), gate(api.MaxApprovers, api.MaxApprovers, 5), gate(1, api.MaxApprovers, 5),
		func(j *api.Job) { j.HasGate, j.Gate = false, api.GateSpec{} },
		func(j *api.Job) { j.HasGate, j.Gate = false, api.GateSpec{Approvers: []string{}} },
		func(j *api.Job) { j.Tests = nil },
		func(j *api.Job) { j.Tests = []string{long} },
		func(j *api.Job) { j.Shards, j.Shard = 0, 0 },
		func(j *api.Job) { j.Shards, j.Shard = 1, 1 },
		func(j *api.Job) { j.Shards, j.Shard = api.MaxShards, 1 },
		func(j *api.Job) { j.Shards, j.Shard = api.MaxShards, api.MaxShards },
		func(j *api.Job) { j.AllowFail, j.Child = true, true },
	} {
		p := sound(t)
		change(&p.Jobs[3])
		if err := compile.Valid(p); err != api.OK {
			t.Errorf("change %d: %v", i, err)
		}
	}
}

// P19.6: the name, and the number of jobs.
func TestInvalidPlans(t *testing.T) {
	jobs := func(n int) []api.Job {
		var all []api.Job
		for i := range n {
			all = append(all, plain(fmt.Sprint("j", i)))
		}
		return all
	}
	bad := append([]api.Job{{}}, jobs(api.MaxJobs)...)
	for _, x := range []struct {
		plan api.Plan
		want api.Errno
	}{
		{api.Plan{}, api.ErrInvalid},
		{api.Plan{Name: "P"}, api.ErrInvalid},
		{api.Plan{Name: "a/b"}, api.ErrInvalid},
		{api.Plan{Name: repeated("a", 65)}, api.ErrInvalid},
		{api.Plan{Name: repeated("a", 64)}, api.OK},
		{api.Plan{Name: "a.b", Jobs: []api.Job{}}, api.OK},
		{api.Plan{Name: "p", Jobs: jobs(api.MaxJobs)}, api.OK},
		{api.Plan{Name: "p", Jobs: jobs(api.MaxJobs + 1)}, api.ErrLimit},
		{api.Plan{Name: "", Jobs: jobs(api.MaxJobs + 1)}, api.ErrInvalid},
		{api.Plan{Name: "p", Jobs: bad}, api.ErrLimit},
		{api.Plan{Name: "p", Jobs: bad[:5]}, api.ErrInvalid},
		{api.Plan{Name: "p", Jobs: []api.Job{plain("a"), plain("b"), plain("a")}}, api.ErrExists},
		{api.Plan{Name: "p", Jobs: []api.Job{plain("a", "b"), plain("b")}}, api.ErrNotFound},
		{api.Plan{Name: "p", Jobs: []api.Job{plain("b"), plain("a", "b")}}, api.OK},
		{api.Plan{Name: "p", Jobs: []api.Job{plain("j10"), plain("j2"), plain("a", "j2", "j10")}}, api.OK},
		{api.Plan{Name: "p", Jobs: []api.Job{plain("j10"), plain("j2"), plain("a", "j10", "j2")}}, api.ErrInvalid},
	} {
		if err := compile.Valid(x.plan); err != x.want {
			t.Errorf("Valid of a plan %q with %d jobs: %v, want %v", x.plan.Name, len(x.plan.Jobs), err, x.want)
		}
	}
}

// P19.6: the outputs of all jobs on which a job depends may be used, however far they are, and no others.
func TestDistantUses(t *testing.T) {
	p := api.Plan{Name: "p"}
	id := func(i int) string { return fmt.Sprint("j", i) }
	for i := range api.MaxJobs {
		j := plain(id(i))
		j.Outputs = []string{"o"}
		if i >= 2 { // two chains
			j.Needs = []string{id(i - 2)}
			j.Uses = []string{id(i%2) + "/o"}
		}
		if i >= 4 {
			j.Uses = append(j.Uses, id(i-2)+"/o")
		}
		p.Jobs = append(p.Jobs, j)
	}
	if err := compile.Valid(p); err != api.OK {
		t.Fatal(err)
	}
	for i := 2; i < api.MaxJobs; i += 73 {
		uses := p.Jobs[i].Uses
		for other := 1 - i%2; other < i; other += 2 {
			if other%26 > 1 && other < i-1 {
				continue // a part of them is enough
			}
			p.Jobs[i].Uses = []string{id(other) + "/o"}
			if err := compile.Valid(api.Plan{Name: "p", Jobs: p.Jobs[:i+1]}); err != api.ErrNotFound {
				t.Errorf("%s uses an output of %s: %v", id(i), id(other), err)
			}
		}
		p.Jobs[i].Uses = uses
	}
}
