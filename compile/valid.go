package compile

import (
	"slices"
	"strings"

	"pipeline/api"
	"pipeline/condition"
	"pipeline/eval"
	"pipeline/glob"
	"pipeline/ident"
	"pipeline/interp"
	"pipeline/parser"
	"pipeline/typing"
)

// jobSet is a set of jobs of a plan, with a bit for each of them.
type jobSet [api.MaxJobs / 64]uint64

func (s *jobSet) add(i int) { s[i/64] |= 1 << (i % 64) }

func (s *jobSet) addAll(other jobSet) {
	for i, bits := range other {
		s[i] |= bits
	}
}

func (s *jobSet) has(i int) bool { return s[i/64]>>(i%64)&1 == 1 }

// requirePlan requires that a plan is valid. This function and those that it calls panic with the error that they find.
func requirePlan(p api.Plan) {
	require(ident.Name(p.Name), api.ErrInvalid)
	require(len(p.Jobs) <= api.MaxJobs, api.ErrLimit)
	e := earlier{index: map[string]int{}}
	for _, j := range p.Jobs {
		requirePath(j.ID)
		_, exists := e.index[j.ID]
		require(!exists, api.ErrExists)
		above := e.above(j.Needs)
		requireJob(j, func(use string) bool { return e.provides(above, use) })
		e.add(j, above)
	}
}

// earlier are the jobs of a plan that come before the one that is checked.
type earlier struct {
	jobs     []api.Job
	index    map[string]int // their indices by their IDs
	depended []jobSet       // on which ones each of them depends
}

func (e *earlier) add(j api.Job, above jobSet) {
	e.index[j.ID] = len(e.jobs)
	e.jobs = append(e.jobs, j)
	e.depended = append(e.depended, above)
}

// above returns the jobs on which a job with these Needs depends.
func (e *earlier) above(needs []string) jobSet {
	require(ident.Ascending(needs), api.ErrInvalid)
	var above jobSet
	for _, id := range needs {
		i, ok := e.index[id]
		require(ok, api.ErrNotFound)
		above.add(i)
		above.addAll(e.depended[i])
	}
	return above
}

// provides reports whether use names an output of one of the jobs of a set.
func (e *earlier) provides(jobs jobSet, use string) bool {
	slash := strings.LastIndexByte(use, '/') // an output is an identifier
	if slash < 0 {
		return false
	}
	i, ok := e.index[use[:slash]]
	if !ok || !jobs.has(i) {
		return false
	}
	_, ok = slices.BinarySearchFunc(e.jobs[i].Outputs, use[slash+1:], ident.Compare)
	return ok
}

// requireJob requires what a valid job has besides its ID and its Needs. provided reports whether an artifact is there that a job uses.
func requireJob(j api.Job, provided func(use string) bool) {
	requireCondition(j)
	requireSteps(j)
	requireLabels(j.Labels)
	requireNumbers(j)
	requireRetry(j.Retry)
	for _, pattern := range j.Inputs {
		raise(glob.Valid(pattern))
	}
	require(ident.Ascending(j.Uses), api.ErrInvalid)
	for _, use := range j.Uses {
		require(provided(use), api.ErrNotFound)
	}
	requireNames(j.Outputs)
	requireNames(j.Secrets)
	for _, c := range j.Caches {
		requireCache(c)
	}
	require(j.Environment == "" || ident.Name(j.Environment), api.ErrInvalid)
	requireGate(j)
	requireTests(j)
}

func requireCondition(j api.Job) {
	raise(eval.Env(j.Vars))
	raise(parser.Valid(j.When))
	var decls []api.Decl
	for _, v := range j.Vars {
		decls = append(decls, api.Decl{Name: v.Name, Type: typing.Of(v.Value)})
	}
	raise(condition.Check(j.When, decls))
}

func requireSteps(j api.Job) {
	require(len(j.Steps) <= api.MaxSteps, api.ErrLimit)
	for _, s := range j.Steps {
		require(s.Op > 0 && s.Op < api.StepOps, api.ErrInvalid)
		requireRange(s.N, 0, api.MaxTime)
		require(s.Op != api.StepMemo || s.N < len(j.Caches), api.ErrRange)
		require(len(s.Name) <= api.MaxSource && len(s.Text) <= api.MaxSource, api.ErrTooLong)
	}
}

func requireLabels(labels []string) {
	require(ident.Ascending(labels), api.ErrInvalid)
	require(len(labels) <= api.MaxLabels, api.ErrLimit)
	for _, l := range labels {
		require(l != "" && len(l) <= api.MaxName, api.ErrInvalid)
	}
}

func requireNumbers(j api.Job) {
	if j.Group != "" {
		requirePath(j.Group)
	}
	requireRange(j.Policy, api.PolicyQueue, api.PolicyReplace)
	requireRange(j.Priority, 0, 9)
	requireRange(j.Cost, 1, api.MaxCost)
	requireRange(j.Timeout, 1, api.MaxTime)
}

func requireRetry(r api.Retry) {
	requireRange(r.Max, 0, api.MaxAttempts-1)
	requireRange(r.Base, 0, api.MaxTime)
	requireRange(r.Cap, 0, api.MaxTime)
	last := api.ClassNone
	for _, class := range r.Classes {
		require(class > last && class < api.Classes, api.ErrInvalid)
		last = class
	}
}

func requireCache(c api.CacheSpec) {
	_, _, err := interp.Parts(c.Key)
	raise(err)
	for _, prefix := range c.Restore {
		_, _, err := interp.Parts(prefix)
		raise(err)
	}
	for _, pattern := range c.Files {
		raise(glob.Valid(pattern))
	}
}

func requireGate(j api.Job) {
	g := j.Gate
	if !j.HasGate {
		require(g.Approvals == 0 && len(g.Approvers) == 0 && g.Expiry == 0, api.ErrInvalid)
		return
	}
	requireNames(g.Approvers)
	require(len(g.Approvers) <= api.MaxApprovers, api.ErrRange)
	requireRange(g.Approvals, 1, len(g.Approvers))
	requireRange(g.Expiry, 1, api.MaxTime)
}

func requireTests(j api.Job) {
	require(ident.Ascending(j.Tests), api.ErrInvalid)
	for _, test := range j.Tests {
		requirePath(test)
	}
	requireRange(j.Shards, 0, api.MaxShards)
	requireRange(j.Shard, min(j.Shards, 1), j.Shards)
}

func requireRange(n, low, high int) { require(n >= low && n <= high, api.ErrRange) }

// requirePath requires that a string is a path, for which too many bytes are no other error.
func requirePath(s string) {
	_, err := ident.Parts(s)
	require(err == api.OK, api.ErrInvalid)
}

// requireNames requires an ascending list of identifiers.
func requireNames(names []string) {
	require(ident.Ascending(names), api.ErrInvalid)
	for _, name := range names {
		require(ident.Name(name), api.ErrInvalid)
	}
}
