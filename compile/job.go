package compile

import (
	"slices"

	"pipeline/api"
	"pipeline/condition"
)

// job returns the instance of a job in its environment, without its ID. It may share memory with both.
func (s scope) job(b api.Block) api.Job {
	j := api.Job{
		When:     condition.Default(),
		Vars:     s.vars,
		Priority: 5,
		Cost:     1,
		Timeout:  3600000,
		Retry:    defaultRetry(),
	}
	for _, a := range b.Attrs {
		s.attr(&j, a)
	}
	seen := map[string]bool{}
	for _, nested := range b.Blocks {
		s.block(&j, nested, seen[nested.Kind])
		seen[nested.Kind] = true
	}
	return j
}

func defaultRetry() api.Retry {
	return api.Retry{Classes: []int{api.ClassLost, api.ClassPreempted}, Base: 1000, Cap: 60000}
}

// attr sets what an attribute states.
func (s scope) attr(j *api.Job, a api.Attr) {
	switch a.Name {
	case shardsAttr:
	case "needs":
		j.Needs = s.names(a.Expr)
	case "labels":
		j.Labels = s.names(a.Expr)
	case "uses":
		j.Uses = s.names(a.Expr)
	case "outputs":
		j.Outputs = s.names(a.Expr)
	case "secrets":
		j.Secrets = s.names(a.Expr)
	case "tests":
		j.Tests = s.names(a.Expr)
	case "inputs":
		j.Inputs = s.texts(a.Expr)
	case "when":
		j.When = a.Expr
	case "group":
		j.Group = s.text(a.Expr)
	case "environment":
		j.Environment = s.text(a.Expr)
	case "policy":
		j.Policy = policy(s.text(a.Expr))
	case "timeout":
		j.Timeout = s.duration(a.Expr)
	case "priority":
		j.Priority = s.integer(a.Expr)
	case "cost":
		j.Cost = s.integer(a.Expr)
	case "allow_failure":
		j.AllowFail = s.boolean(a.Expr)
	case "child":
		j.Child = s.boolean(a.Expr)
	default:
		panic(api.ErrName)
	}
}

func policy(name string) int {
	names := [...]string{api.PolicyQueue: "queue", api.PolicyLatest: "latest", api.PolicyReplace: "replace"}
	return numberOf(name, names[:])
}

// numberOf returns the index of a name.
func numberOf(name string, names []string) int {
	i := slices.Index(names, name)
	require(i >= 0 && name != "", api.ErrInvalid)
	return i
}

// block sets what a nested block states; again says whether an earlier one has the same kind.
func (s scope) block(j *api.Job, b api.Block, again bool) {
	switch b.Kind {
	case matrixKind:
	case "step":
		j.Steps = append(j.Steps, s.step(b))
	case "retry":
		require(!again, api.ErrExists)
		j.Retry = s.retry(b)
	case "cache":
		j.Caches = append(j.Caches, s.cache(b))
	case "gate":
		require(!again, api.ErrExists)
		j.HasGate, j.Gate = true, s.gate(b)
	default:
		panic(api.ErrName)
	}
	require(len(b.Blocks) == 0, api.ErrSyntax)
}

func (s scope) step(b api.Block) api.Step {
	step := api.Step{Op: operation(b.Name)}
	for _, a := range b.Attrs {
		switch {
		case a.Name == "name":
			step.Name = s.text(a.Expr)
		case a.Name == "text" && step.Op == api.StepChild:
			step.Text = s.plain(a.Expr)
		case a.Name == "text":
			step.Text = s.text(a.Expr)
		case a.Name == "n":
			step.N = s.integer(a.Expr)
		default:
			panic(api.ErrName)
		}
	}
	return step
}

func operation(name string) int {
	names := [api.StepOps]string{
		api.StepRead:   "read",
		api.StepUse:    "use",
		api.StepSecret: "secret",
		api.StepMemo:   "memo",
		api.StepEmit:   "emit",
		api.StepLog:    "log",
		api.StepEcho:   "echo",
		api.StepTest:   "test",
		api.StepFail:   "fail",
		api.StepSleep:  "sleep",
		api.StepChild:  "child",
	}
	return numberOf(name, names[:])
}

func (s scope) retry(b api.Block) api.Retry {
	r := defaultRetry()
	for _, a := range b.Attrs {
		switch a.Name {
		case "max":
			r.Max = s.integer(a.Expr)
		case "on":
			r.Classes = classes(s.texts(a.Expr))
		case "base":
			r.Base = s.duration(a.Expr)
		case "cap":
			r.Cap = s.duration(a.Expr)
		default:
			panic(api.ErrName)
		}
	}
	return r
}

// classes returns the classes with these names, each once and ascending.
func classes(chosen []string) []int {
	names := [api.Classes]string{
		api.ClassScript:    "script",
		api.ClassTest:      "test",
		api.ClassTimeout:   "timeout",
		api.ClassLost:      "lost",
		api.ClassPreempted: "preempted",
		api.ClassDenied:    "denied",
		api.ClassInput:     "input",
	}
	var list []int
	for _, name := range chosen {
		list = append(list, numberOf(name, names[:]))
	}
	slices.Sort(list)
	return slices.Compact(list)
}

func (s scope) cache(b api.Block) api.CacheSpec {
	var c api.CacheSpec
	for _, a := range b.Attrs {
		switch a.Name {
		case "key":
			c.Key = s.plain(a.Expr)
		case "restore":
			c.Restore = s.plains(a.Expr)
		case "files":
			c.Files = s.plains(a.Expr)
		default:
			panic(api.ErrName)
		}
	}
	return c
}

func (s scope) gate(b api.Block) api.GateSpec {
	var g api.GateSpec
	for _, a := range b.Attrs {
		switch a.Name {
		case "approvals":
			g.Approvals = s.integer(a.Expr)
		case "approvers":
			g.Approvers = s.names(a.Expr)
		case "expiry":
			g.Expiry = s.duration(a.Expr)
		default:
			panic(api.ErrName)
		}
	}
	return g
}
