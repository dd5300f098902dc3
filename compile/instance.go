package compile

import (
	"strconv"

	"pipeline/api"
	"pipeline/clone"
	"pipeline/config"
	"pipeline/matrix"
	"pipeline/value"
)

const (
	matrixKind  = "matrix"
	shardsAttr  = "shards"
	includeAttr = "include"
	excludeAttr = "exclude"
)

// add adds the instances of a job.
func (c *compilation) add(b api.Block) {
	scopes, several := c.scopes(b)
	shards := c.shards(b)
	var jobs []api.Job
	for i, s := range scopes {
		j := s.job(b)
		j.ID = b.Name
		if several {
			j.ID = numbered(j.ID, i+1)
		}
		jobs = append(jobs, j)
	}
	// What does not fit into a plan is not built, since it may be much more.
	require(len(c.jobs)+len(jobs)*max(shards, 1) <= api.MaxJobs, api.ErrLimit)
	var members []string
	for _, j := range jobs {
		for _, shard := range divide(j, shards) {
			c.jobs = append(c.jobs, shard)
			c.members[shard.ID] = []string{shard.ID}
			members = append(members, shard.ID)
		}
	}
	c.members[b.Name] = members
}

// divide returns the shards of a job, or the job if it has none. Each of them has its own memory.
func divide(j api.Job, shards int) []api.Job {
	if shards == 0 {
		return []api.Job{clone.Job(j)}
	}
	var jobs []api.Job
	for i := range shards {
		shard := clone.Job(j)
		shard.ID, shard.Shard, shard.Shards = numbered(j.ID, i+1), i+1, shards
		jobs = append(jobs, shard)
	}
	return jobs
}

func numbered(id string, n int) string { return id + "." + strconv.Itoa(n) }

// scopes returns the environments of the instances of a job, and whether they are those of a matrix.
func (c *compilation) scopes(b api.Block) ([]scope, bool) {
	blocks := config.Blocks(b, matrixKind)
	require(len(blocks) <= 1, api.ErrExists)
	if len(blocks) == 0 {
		return []scope{c.params}, false
	}
	var scopes []scope
	for _, vars := range must(matrix.Expand(c.matrix(blocks[0]))) {
		scopes = append(scopes, c.params.with(vars))
	}
	return scopes, true
}

// matrix returns the matrix that a block describes.
func (c *compilation) matrix(b api.Block) api.Matrix {
	var m api.Matrix
	for _, a := range b.Attrs {
		switch a.Name {
		case includeAttr:
			m.Include = c.entries(a.Expr)
		case excludeAttr:
			m.Exclude = c.entries(a.Expr)
		default:
			m.Axes = append(m.Axes, api.Axis{Name: a.Name, Values: c.params.value(a.Expr, api.VList).List})
		}
	}
	require(len(b.Blocks) == 0, api.ErrSyntax)
	return m
}

// entries returns the entries of the maps of a list.
func (c *compilation) entries(e api.Expr) [][]api.Var {
	var all [][]api.Var
	for _, v := range c.params.list(e, api.VMap) {
		all = append(all, must(value.Vars(v)))
	}
	return all
}

// shards returns the number of shards that a job states, or 0 if it does not.
func (c *compilation) shards(b api.Block) int {
	e, ok := config.Attr(b, shardsAttr)
	if !ok {
		return 0
	}
	n := c.params.integer(e)
	require(n >= 1 && n <= api.MaxShards, api.ErrRange)
	return n
}
