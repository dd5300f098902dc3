package compile

import (
	"strings"

	"pipeline/api"
	"pipeline/config"
	"pipeline/graph"
	"pipeline/ident"
	"pipeline/template"
)

// The kinds of the top-level blocks.
const (
	pipelineKind = "pipeline"
	jobKind      = "job"
)

// planOf returns the plan that a file describes. This function and those that it calls panic with the error that they find.
func planOf(f api.File, args []api.Var) api.Plan {
	raise(config.Valid(f))
	templates, rest, err := template.Collect(f)
	raise(err)
	head, body := divided(rest.Blocks)
	params := paramsOf(head)
	values := must(template.Bind(params, args))
	expanded := must(template.Expand(api.File{Blocks: body}, templates, values))
	requireJobs(expanded.Blocks)
	c := compilation{params: scopeOf(values), members: map[string][]string{}}
	for _, b := range expanded.Blocks {
		c.add(b)
	}
	p := api.Plan{Name: head.Name, Jobs: c.ordered()}
	raise(Valid(p))
	return p
}

// divided returns the block that describes the pipeline, and the other ones.
func divided(blocks []api.Block) (api.Block, []api.Block) {
	var heads, body []api.Block
	for _, b := range blocks {
		if b.Kind == pipelineKind {
			heads = append(heads, b)
		} else {
			body = append(body, b)
		}
	}
	require(len(heads) > 0, api.ErrNotFound)
	require(len(heads) == 1, api.ErrExists)
	return heads[0], body
}

// paramsOf returns the parameters of a pipeline.
func paramsOf(head api.Block) []api.Param {
	require(ident.Name(head.Name), api.ErrInvalid)
	params, rest, err := template.Params(head)
	raise(err)
	require(len(rest.Attrs) == 0 && len(rest.Blocks) == 0, api.ErrSyntax)
	return params
}

// requireJobs requires that blocks are jobs with different names.
func requireJobs(blocks []api.Block) {
	seen := map[string]bool{}
	for _, b := range blocks {
		require(b.Kind == jobKind, api.ErrSyntax)
		require(ident.Name(b.Name) && !strings.Contains(b.Name, "."), api.ErrInvalid)
		require(!seen[b.Name], api.ErrExists)
		seen[b.Name] = true
	}
}

// compilation is what is known while the jobs of a file are compiled.
type compilation struct {
	params  scope
	jobs    []api.Job           // the instances so far, whose Needs are as the file states them
	members map[string][]string // the IDs that the name of a job, or an ID, stands for
}

// ordered returns the instances in topological order, with their dependencies.
func (c *compilation) ordered() []api.Job {
	index := map[string]int{}
	for i, j := range c.jobs {
		c.jobs[i].Needs = c.resolved(j.Needs)
		index[j.ID] = i
	}
	var jobs []api.Job
	for _, n := range must(graph.Order(nodesOf(c.jobs))) {
		jobs = append(jobs, c.jobs[index[n.ID]])
	}
	return jobs
}

// resolved returns the IDs that elements of needs stand for, ascending.
func (c *compilation) resolved(needs []string) []string {
	var ids []string
	for _, name := range needs {
		members, ok := c.members[name]
		require(ok, api.ErrNotFound)
		ids = append(ids, members...)
	}
	return ident.Sorted(ids)
}
