package scheduler

import (
	"cmp"
	"slices"
	"strconv"
	"strings"

	"pipeline/api"
	"pipeline/budget"
	"pipeline/concurrency"
	"pipeline/fairness"
	"pipeline/ident"
	"pipeline/label"
	"pipeline/queue"
)

const unit = 1000 // thousandths

// decision is a state in which jobs are granted, with what remains true of it while only that happens.
type decision struct {
	api.Sched
	now int
	// lines are the jobs of each project in their order, but for some that are not eligible.
	lines map[string][]api.Pending
	// turns are the groups by their names, each alone in a list and without the jobs that wait behind another one.
	turns map[string][]api.Group
	// suited are the indices of the workers whose labels satisfy requirements, by the requirements.
	suited map[string][]int
}

func consider(s api.Sched, now int) *decision {
	return &decision{Sched: s, now: now, turns: turnsOf(s.Groups), suited: map[string][]int{}}
}

// turnsOf returns what concurrency.May needs of groups to answer for one of them. The answer is the same after the job that may start has started.
func turnsOf(gs []api.Group) map[string][]api.Group {
	if concurrency.Valid(gs) != api.OK {
		return nil
	}
	turns := map[string][]api.Group{}
	for _, g := range gs {
		g.Waiting = g.Waiting[:min(len(g.Waiting), 1)]
		turns[g.Name] = []api.Group{g}
	}
	return turns
}

// line lines up the jobs of the queue.
func (d *decision) line() {
	d.lines = map[string][]api.Pending{}
	for _, p := range queue.Order(d.Queue, d.now) {
		d.lines[p.Project] = append(d.lines[p.Project], p)
	}
}

// eligible reports whether a job may be granted.
func (d *decision) eligible(p api.Pending) bool {
	if !d.shared(p.Project) || !d.affords(p) || !concurrency.May(d.turns[p.Group], p.Group, p.Ref) {
		return false
	}
	_, fits := d.choose(p)
	return fits
}

func (d *decision) shared(project string) bool {
	return slices.ContainsFunc(d.Shares, func(s api.Share) bool { return s.Project == project })
}

// affords reports whether the account of the project of a job contains its cost.
func (d *decision) affords(p api.Pending) bool {
	at := d.account(p.Project)
	// Thousandths of a unit do not help, and the cost of a job that is not valid may be too large for thousandths.
	return at >= 0 && budget.Level(d.Accounts[at].Bucket, d.now)/unit >= p.Cost
}

// account returns the index of the first account of a project, and -1 if there is none.
func (d *decision) account(project string) int {
	return slices.IndexFunc(d.Accounts, func(a api.Account) bool { return a.Project == project })
}

// choose returns the ID of the best worker that fits.
func (d *decision) choose(p api.Pending) (string, bool) {
	best := -1
	for _, i := range d.satisfying(p.Labels) {
		if w := d.Workers[i]; accepts(w, p) && (best < 0 || better(w, d.Workers[best])) {
			best = i
		}
	}
	if best < 0 {
		return "", false
	}
	return d.Workers[best].ID, true
}

// better reports whether a worker is preferred to another one that fits, too.
func better(w, other api.Worker) bool {
	free := func(w api.Worker) int { return w.Slots - len(w.Tokens) }
	return cmp.Or(
		cmp.Compare(len(w.Labels), len(other.Labels)),
		cmp.Compare(free(other), free(w)),
		ident.Compare(w.ID, other.ID),
	) < 0
}

// satisfying returns the indices of the workers whose labels satisfy requirements.
func (d *decision) satisfying(needs []string) []int {
	key := keyOf(needs)
	list, known := d.suited[key]
	if !known {
		for i, w := range d.Workers {
			if label.Satisfies(w.Labels, needs) {
				list = append(list, i)
			}
		}
		d.suited[key] = list
	}
	return list
}

// keyOf returns a string that no other list of strings has.
func keyOf(list []string) string {
	var key strings.Builder
	for _, s := range list {
		key.WriteString(strconv.Itoa(len(s)))
		key.WriteByte(':')
		key.WriteString(s)
	}
	return key.String()
}

// next returns the next grant. The project that fairness.Pick returns is the first one in the order of fairness.Order that has an eligible job.
func (d *decision) next() (api.Grant, bool) {
	var g api.Grant
	found := false
search:
	for _, project := range fairness.Order(d.Shares) {
		for len(d.lines[project]) > 0 {
			if p := d.lines[project][0]; d.eligible(p) {
				g.Ref = p.Ref
				g.Worker, found = d.choose(p)
				break search
			}
			// What is not eligible remains so: every grant leaves less of the budgets, slots and groups.
			d.lines[project] = d.lines[project][1:]
		}
	}
	return g, found
}

// take carries out a grant.
func (d *decision) take(g api.Grant, token int) api.Errno {
	at := slices.IndexFunc(d.Queue, func(p api.Pending) bool { return p.Ref == g.Ref })
	on := machine(d.Workers, g.Worker)
	if at < 0 || on < 0 {
		return api.ErrNotFound
	}
	p := d.Queue[at]
	switch {
	case !d.eligible(p) || !Fits(d.Workers[on], p):
		return api.ErrState
	case d.issued(token):
		return api.ErrExists
	case token < 1:
		return api.ErrRange
	}
	if e := d.pay(p); e != api.OK {
		return e
	}
	d.start(p)
	d.Workers[on].Tokens = with(d.Workers[on].Tokens, token)
	d.leave(at)
	return api.OK
}

// issued reports whether some worker has a token.
func (d *decision) issued(token int) bool {
	return slices.ContainsFunc(d.Workers, func(w api.Worker) bool { return slices.Contains(w.Tokens, token) })
}

// pay charges the cost of an eligible job to its project, and takes it from the account.
func (d *decision) pay(p api.Pending) api.Errno {
	shares, e := fairness.Charge(d.Shares, p.Project, p.Cost)
	if e != api.OK {
		return e
	}
	account := &d.Accounts[d.account(p.Project)]
	bucket, e := budget.Spend(account.Bucket, d.now, p.Cost)
	if e != api.OK {
		return e
	}
	d.Shares, account.Bucket = shares, bucket
	return api.OK
}

// start makes an eligible job the running one of its group.
func (d *decision) start(p api.Pending) {
	at := slices.IndexFunc(d.Groups, func(g api.Group) bool { return p.Group != "" && g.Name == p.Group })
	if at < 0 || d.Groups[at].Running == p.Ref {
		return
	}
	// The groups are valid, and so is each of them alone, which is faster to change.
	if started, e := concurrency.Start(d.Groups[at:at+1], p.Group, p.Ref); e == api.OK {
		d.Groups[at] = started[0]
	}
}

// with adds a token before the first one that is greater.
func with(tokens []int, token int) []int {
	at := slices.IndexFunc(tokens, func(other int) bool { return other > token })
	if at < 0 {
		return append(tokens, token)
	}
	return slices.Insert(tokens, at, token)
}

// leave removes a job from the queue and from its line.
func (d *decision) leave(at int) {
	p := d.Queue[at]
	d.Queue = slices.Delete(d.Queue, at, at+1)
	line := d.lines[p.Project]
	// The job need not be the first one in its line: another one may have the same reference.
	if at := slices.IndexFunc(line, func(q api.Pending) bool { return same(p, q) }); at >= 0 {
		d.lines[p.Project] = slices.Delete(line, at, at+1)
	}
}

// same reports whether jobs are equal in all fields.
func same(p, q api.Pending) bool {
	numbers := func(p api.Pending) [5]int { return [...]int{p.Priority, p.Since, p.Cost, p.Trust, p.Policy} }
	return p.Ref == q.Ref && p.Project == q.Project && p.Group == q.Group && numbers(p) == numbers(q) && slices.Equal(p.Labels, q.Labels)
}
