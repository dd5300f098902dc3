// Package clone copies what package api declares, so that results share no memory with arguments.
package clone

import (
	"slices"

	"pipeline/api"
)

// List returns a list with copies of the elements.
func List[T any](list []T, element func(T) T) []T {
	copied := slices.Clone(list)
	for i, x := range list {
		copied[i] = element(x)
	}
	return copied
}

// Value returns a copy of a value.
func Value(v api.Value) api.Value {
	v.List = List(v.List, Value)
	v.Keys = slices.Clone(v.Keys)
	return v
}

// Var returns a copy of a variable.
func Var(v api.Var) api.Var {
	v.Value = Value(v.Value)
	return v
}

// Expr returns a copy of an expression.
func Expr(e api.Expr) api.Expr {
	e.Value = Value(e.Value)
	e.Args = List(e.Args, Expr)
	e.Keys = slices.Clone(e.Keys)
	return e
}

// Attr returns a copy of an attribute.
func Attr(a api.Attr) api.Attr {
	a.Expr = Expr(a.Expr)
	return a
}

// Block returns a copy of a block.
func Block(b api.Block) api.Block {
	b.Attrs = List(b.Attrs, Attr)
	b.Blocks = List(b.Blocks, Block)
	return b
}

// Cache returns a copy of a use of the cache.
func Cache(c api.CacheSpec) api.CacheSpec {
	c.Restore = slices.Clone(c.Restore)
	c.Files = slices.Clone(c.Files)
	return c
}

// Job returns a copy of a job.
func Job(j api.Job) api.Job {
	for _, names := range []*[]string{&j.Needs, &j.Labels, &j.Inputs, &j.Uses, &j.Outputs, &j.Secrets, &j.Gate.Approvers, &j.Tests} {
		*names = slices.Clone(*names)
	}
	j.When = Expr(j.When)
	j.Vars = List(j.Vars, Var)
	j.Steps = slices.Clone(j.Steps)
	j.Retry.Classes = slices.Clone(j.Retry.Classes)
	j.Caches = List(j.Caches, Cache)
	return j
}

// Pending returns a copy of a pending job.
func Pending(p api.Pending) api.Pending {
	p.Labels = slices.Clone(p.Labels)
	return p
}

// Group returns a copy of a concurrency group.
func Group(g api.Group) api.Group {
	g.Waiting = slices.Clone(g.Waiting)
	return g
}

// Worker returns a copy of a worker.
func Worker(w api.Worker) api.Worker {
	w.Labels = slices.Clone(w.Labels)
	w.Tokens = slices.Clone(w.Tokens)
	return w
}

// Sched returns a copy of the state of a scheduler.
func Sched(s api.Sched) api.Sched {
	return api.Sched{
		Queue:    List(s.Queue, Pending),
		Shares:   slices.Clone(s.Shares),
		Accounts: slices.Clone(s.Accounts),
		Groups:   List(s.Groups, Group),
		Workers:  List(s.Workers, Worker),
	}
}
