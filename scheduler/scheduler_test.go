package scheduler_test

import (
	"math"
	"math/big"
	"math/rand/v2"
	"reflect"
	"slices"
	"strconv"
	"testing"

	"pipeline/api"
	"pipeline/budget"
	"pipeline/concurrency"
	"pipeline/fairness"
	"pipeline/ident"
	"pipeline/label"
	"pipeline/queue"
	"pipeline/scheduler"
)

// fits is what P26.1 says.
func fits(w api.Worker, p api.Pending) bool {
	free := new(big.Int)
	if w.Phase == api.WorkerIdle {
		free.Sub(big.NewInt(int64(w.Slots)), big.NewInt(int64(len(w.Tokens))))
	}
	level := func(n int) bool { return n == api.TrustFork || n == api.TrustBranch || n == api.TrustProtected }
	trusted := level(w.Trust) && level(p.Trust) &&
		(w.Trust == api.TrustFork && p.Trust == api.TrustFork || p.Trust > api.TrustFork && w.Trust >= p.Trust)
	return free.Sign() > 0 && trusted && label.Satisfies(w.Labels, p.Labels)
}

// eligible is what P26.2 says.
func eligible(s api.Sched, p api.Pending, now int) bool {
	share := slices.ContainsFunc(s.Shares, func(x api.Share) bool { return x.Project == p.Project })
	account := slices.IndexFunc(s.Accounts, func(x api.Account) bool { return x.Project == p.Project })
	if !share || account < 0 {
		return false
	}
	level := big.NewInt(int64(budget.Level(s.Accounts[account].Bucket, now)))
	cost := new(big.Int).Mul(big.NewInt(1000), big.NewInt(int64(p.Cost)))
	return level.Cmp(cost) >= 0 && (p.Group == "" || concurrency.May(s.Groups, p.Group, p.Ref)) &&
		slices.ContainsFunc(s.Workers, func(w api.Worker) bool { return fits(w, p) })
}

// chosen is what P26.3 says.
func chosen(s api.Sched, p api.Pending) (string, bool) {
	var list []api.Worker
	for _, w := range s.Workers {
		if fits(w, p) {
			list = append(list, w)
		}
	}
	keep := func(better func(w, other api.Worker) bool) {
		var best []api.Worker
		for _, w := range list {
			if !slices.ContainsFunc(list, func(other api.Worker) bool { return better(other, w) }) {
				best = append(best, w)
			}
		}
		list = best
	}
	keep(func(w, other api.Worker) bool { return len(w.Labels) < len(other.Labels) })
	keep(func(w, other api.Worker) bool { return w.Slots-len(w.Tokens) > other.Slots-len(other.Tokens) })
	keep(func(w, other api.Worker) bool { return ident.Compare(w.ID, other.ID) < 0 })
	if len(list) == 0 {
		return "", false
	}
	return list[0].ID, true
}

// next is what P26.4 says.
func next(s api.Sched, now int) (api.Grant, bool) {
	var jobs []api.Pending
	for _, p := range queue.Order(s.Queue, now) {
		if eligible(s, p, now) {
			jobs = append(jobs, p)
		}
	}
	project, is := fairness.Pick(s.Shares, queue.Projects(jobs))
	if !is {
		return api.Grant{}, false
	}
	p := jobs[slices.IndexFunc(jobs, func(p api.Pending) bool { return p.Project == project })]
	id, _ := chosen(s, p)
	return api.Grant{Ref: p.Ref, Worker: id}, true
}

// copied returns a copy of a state.
func copied(s api.Sched) api.Sched {
	s.Queue, s.Shares, s.Accounts, s.Groups, s.Workers = slices.Clone(s.Queue), slices.Clone(s.Shares), slices.Clone(s.Accounts), slices.Clone(s.Groups), slices.Clone(s.Workers)
	for i := range s.Queue {
		s.Queue[i].Labels = slices.Clone(s.Queue[i].Labels)
	}
	for i := range s.Groups {
		s.Groups[i].Waiting = slices.Clone(s.Groups[i].Waiting)
	}
	for i := range s.Workers {
		s.Workers[i].Labels = slices.Clone(s.Workers[i].Labels)
		s.Workers[i].Tokens = slices.Clone(s.Workers[i].Tokens)
	}
	return s
}

// taken is what P26.5 says.
func taken(s api.Sched, g api.Grant, token, now int) (api.Sched, api.Errno) {
	job := slices.IndexFunc(s.Queue, func(p api.Pending) bool { return p.Ref == g.Ref })
	on := slices.IndexFunc(s.Workers, func(w api.Worker) bool { return w.ID == g.Worker })
	if job < 0 || on < 0 {
		return s, api.ErrNotFound
	}
	p := s.Queue[job]
	if !eligible(s, p, now) || !fits(s.Workers[on], p) {
		return s, api.ErrState
	}
	if slices.ContainsFunc(s.Workers, func(w api.Worker) bool { return slices.Contains(w.Tokens, token) }) {
		return s, api.ErrExists
	}
	if token < 1 {
		return s, api.ErrRange
	}
	shares, e := fairness.Charge(s.Shares, p.Project, p.Cost)
	if e != api.OK {
		return s, e
	}
	account := slices.IndexFunc(s.Accounts, func(x api.Account) bool { return x.Project == p.Project })
	bucket, e := budget.Spend(s.Accounts[account].Bucket, now, p.Cost)
	if e != api.OK {
		return s, e
	}
	u := copied(s)
	u.Queue = append(u.Queue[:job], u.Queue[job+1:]...)
	u.Shares = shares
	u.Accounts[account].Bucket = bucket
	for _, group := range s.Groups {
		if p.Group != "" && group.Name == p.Group && group.Running != p.Ref {
			if u.Groups, e = concurrency.Start(s.Groups, p.Group, p.Ref); e != api.OK {
				panic(e)
			}
		}
	}
	var before, after []int
	for i, other := range s.Workers[on].Tokens {
		if len(after) > 0 || other > token {
			after = s.Workers[on].Tokens[i:]
			break
		}
		before = append(before, other)
	}
	u.Workers[on].Tokens = slices.Concat(before, []int{token}, after)
	return u, api.OK
}

// assigned is what P26.6 says.
func assigned(s api.Sched, token, now int) (api.Sched, []api.Grant) {
	var grants []api.Grant
	if token < 1 || token > api.MaxTime {
		return s, nil
	}
	for len(grants) < api.MaxPending {
		g, is := next(s, now)
		u, e := taken(s, g, token+len(grants), now)
		if !is || e != api.OK {
			break
		}
		s, grants = u, append(grants, g)
	}
	return s, grants
}

// released is what P26.7 says.
func released(s api.Sched, ref api.JobRef, worker string, token int) api.Sched {
	u := copied(s)
	for i, w := range s.Workers {
		if w.ID != worker {
			continue
		}
		var rest []int
		for _, other := range w.Tokens {
			if other != token {
				rest = append(rest, other)
			}
		}
		u.Workers[i].Tokens = rest
		break
	}
	u.Groups = concurrency.Leave(s.Groups, ref)
	return u
}

// validated is what P26.8 says.
func validated(s api.Sched) api.Errno {
	if len(s.Queue) > api.MaxPending {
		return api.ErrLimit
	}
	for i, p := range s.Queue {
		if slices.ContainsFunc(s.Queue[:i], func(other api.Pending) bool { return other.Ref == p.Ref }) {
			return api.ErrExists
		}
		if p.Cost < 1 || p.Cost > api.MaxCost {
			return api.ErrRange
		}
	}
	for i, x := range s.Shares {
		if i > 0 && ident.Compare(s.Shares[i-1].Project, x.Project) >= 0 {
			return api.ErrInvalid
		}
	}
	for i, x := range s.Accounts {
		if i > 0 && ident.Compare(s.Accounts[i-1].Project, x.Project) >= 0 {
			return api.ErrInvalid
		}
	}
	if e := concurrency.Valid(s.Groups); e != api.OK {
		return e
	}
	for i, w := range s.Workers {
		if i > 0 && ident.Compare(s.Workers[i-1].ID, w.ID) >= 0 {
			return api.ErrInvalid
		}
		if w.Slots < 0 || w.Slots > api.MaxSlots {
			return api.ErrRange
		}
		for j, token := range w.Tokens {
			if token < 1 || j > 0 && w.Tokens[j-1] >= token {
				return api.ErrInvalid
			}
		}
		for _, other := range s.Workers[:i] {
			if slices.ContainsFunc(w.Tokens, func(token int) bool { return slices.Contains(other.Tokens, token) }) {
				return api.ErrExists
			}
		}
		if len(w.Tokens) > w.Slots {
			return api.ErrLimit
		}
	}
	return api.OK
}

// normal returns a state in which all empty lists are nil, as R4 makes no difference between them.
func normal(s api.Sched) api.Sched {
	s = copied(s)
	for i := range s.Queue {
		s.Queue[i].Labels = orNil(s.Queue[i].Labels)
	}
	for i := range s.Groups {
		s.Groups[i].Waiting = orNil(s.Groups[i].Waiting)
	}
	for i := range s.Workers {
		s.Workers[i].Labels, s.Workers[i].Tokens = orNil(s.Workers[i].Labels), orNil(s.Workers[i].Tokens)
	}
	return api.Sched{Queue: orNil(s.Queue), Shares: orNil(s.Shares), Accounts: orNil(s.Accounts), Groups: orNil(s.Groups), Workers: orNil(s.Workers)}
}

func orNil[T any](list []T) []T {
	if len(list) == 0 {
		return nil
	}
	return list
}

func equal(s, u api.Sched) bool { return reflect.DeepEqual(normal(s), normal(u)) }

var chance = rand.New(rand.NewPCG(26, 1))

// of returns one of some values by chance.
func of[T any](list ...T) T { return list[chance.IntN(len(list))] }

// wild is how often the states that are made are not valid: one of so many elements and numbers is strange, and none if wild is 0.
type wild int

func (w wild) strikes() bool { return w > 0 && chance.IntN(int(w)) == 0 }

// number returns n, or any number.
func (w wild) number(n int) int {
	if w.strikes() {
		return of(math.MinInt, math.MinInt+1, -1, 0, 0, 1, 2, 3, api.MaxSlots+1, api.MaxCost, api.MaxCost+1, api.MaxTime, api.MaxTime+1, math.MaxInt/1000+1, math.MaxInt)
	}
	return n
}

// some returns the elements of list, some of them twice or not at all.
func some[T any](w wild, list []T) []T {
	var l []T
	for _, x := range list {
		if !w.strikes() {
			l = append(l, x)
		}
		if w.strikes() {
			l = append(l, x)
		}
	}
	if w.strikes() {
		slices.Reverse(l)
	}
	return l
}

// state returns a state by chance.
func (w wild) state() api.Sched {
	var s api.Sched
	for _, ref := range some(w, references(chance.IntN(10))) {
		s.Queue = append(s.Queue, api.Pending{
			Ref: ref, Project: of("p9", "p9", "p9", "p10", "p10", "p10", "q", "q", "none"), Priority: w.number(chance.IntN(3)), Since: w.number(chance.IntN(3) * 60000),
			Cost: w.number(1 + chance.IntN(4)), Labels: of(nil, nil, nil, nil, nil, []string{"linux"}, []string{"!gpu"}, []string{"cpu>=4", "linux"}, []string{"?"}),
			Trust: w.number(of(0, 1, 1, 1, 1, 1, 1, 2)), Group: of("", "", "", "", "", "g", "h", "x"), Policy: w.number(chance.IntN(3)),
		})
	}
	for _, project := range some(w, []string{"p9", "p10", "q"}) {
		s.Shares = append(s.Shares, api.Share{Project: project, Weight: w.number(1 + chance.IntN(3)), Served: w.number(of(0, 0, 1, 2, 3, 5, 6, api.MaxTime-3))})
	}
	for _, project := range some(w, []string{"p9", "p10", "q"}) {
		burst := 2 + chance.IntN(19)
		b := api.Bucket{Rate: chance.IntN(3), Burst: w.number(burst), Level: w.number(1000*burst - chance.IntN(2000)*chance.IntN(2)), At: w.number(chance.IntN(3) * 1000)}
		s.Accounts = append(s.Accounts, api.Account{Project: project, Bucket: b})
	}
	s.Groups = w.groups(s.Queue)
	s.Workers = w.workers()
	return s
}

// workers returns workers, whose tokens are below 41 if they are valid.
func (w wild) workers() []api.Worker {
	var list []api.Worker
	tokens := chance.Perm(40)
	for _, id := range some(w, []string{"w1", "w2", "w9", "w10", "w11"}[:of(0, 1, 2, 3, 4, 5, 5)]) {
		m := api.Worker{
			ID: id, Labels: of(nil, nil, []string{"linux"}, []string{"cpu=4", "linux"}, []string{"cpu=4", "linux"}, []string{"gpu"}), Trust: w.number(of(0, 1, 1, 1, 2, 2)),
			Slots: w.number(1 + chance.IntN(6)), Phase: w.number(of(0, 0, 0, 0, 0, 0, 0, 0, 0, api.WorkerDraining, api.WorkerNotified, api.WorkerLost)),
		}
		for range min(chance.IntN(3), max(0, m.Slots)) {
			m.Tokens = append(m.Tokens, 1+tokens[0])
			tokens = tokens[1:]
		}
		if !w.strikes() {
			slices.Sort(m.Tokens)
		}
		if w.strikes() {
			m.Tokens = append(m.Tokens, of(0, 5, 5, 7, -1))
		}
		if w.strikes() && len(list) > 0 {
			m.Tokens = append(m.Tokens, of(list...).Tokens...)
		}
		list = append(list, m)
	}
	return list
}

// references returns n references, in any order.
func references(n int) []api.JobRef {
	refs := make([]api.JobRef, n)
	for i := range refs {
		refs[i] = api.JobRef{Run: of("r9", "r10"), Job: "j" + strconv.Itoa(i)}
	}
	chance.Shuffle(n, func(i, j int) { refs[i], refs[j] = refs[j], refs[i] })
	return refs
}

// groups lets most of the jobs that have a group, and others, enter.
func (w wild) groups(q []api.Pending) []api.Group {
	var gs []api.Group
	for _, name := range []string{"g", "h"} {
		if chance.IntN(3) == 0 {
			gs, _, _ = concurrency.Enter(gs, name, api.JobRef{Run: "other", Job: name}, api.PolicyQueue)
		}
	}
	for _, p := range q {
		if p.Group == "g" || p.Group == "h" {
			gs, _, _ = concurrency.Enter(gs, p.Group, p.Ref, of(0, 0, 0, 1))
		}
	}
	if chance.IntN(3) > 0 {
		// The jobs behind those that leave wait, and no job runs.
		for _, g := range gs {
			gs = concurrency.Leave(gs, g.Running)
		}
	}
	gs = some(w, gs)
	if len(gs) > 0 && w.strikes() {
		gs[0].Name = ""
	}
	if len(gs) > 0 && w.strikes() {
		gs[0].Waiting = append(gs[0].Waiting, api.JobRef{})
	}
	return gs
}

// grant returns a grant of jobs and workers that there are, or not.
func grant(s api.Sched) api.Grant {
	g := api.Grant{Ref: api.JobRef{Run: "r9", Job: "j0"}, Worker: "w9"}
	if len(s.Queue) > 0 && chance.IntN(10) > 0 {
		g.Ref = of(s.Queue...).Ref
	}
	if len(s.Workers) > 0 && chance.IntN(10) > 0 {
		g.Worker = of(s.Workers...).ID
	}
	return g
}

func expectState(t *testing.T, s api.Sched, now int) {
	t.Helper()
	if e, want := scheduler.Valid(s), validated(s); e != want {
		t.Fatalf("Valid(%+v) = %v, want %v", s, e, want)
	}
	for _, p := range append(slices.Clone(s.Queue), api.Pending{}) {
		for _, w := range s.Workers {
			if got, want := scheduler.Fits(w, p), fits(w, p); got != want {
				t.Fatalf("Fits(%+v, %+v) = %v", w, p, got)
			}
		}
		if got, want := scheduler.Eligible(s, p, now), eligible(s, p, now); got != want {
			t.Fatalf("Eligible(%+v, %+v, %d) = %v", s, p, now, got)
		}
		got, is := scheduler.Choose(s, p)
		if want, wantIs := chosen(s, p); got != want || is != wantIs {
			t.Fatalf("Choose(%+v, %+v) = %q, %v, want %q, %v", s, p, got, is, want, wantIs)
		}
	}
	got, is := scheduler.Next(s, now)
	if want, wantIs := next(s, now); got != want || is != wantIs {
		t.Fatalf("Next(%+v, %d) = %v, %v, want %v, %v", s, now, got, is, want, wantIs)
	}
}

func expectTake(t *testing.T, s api.Sched, g api.Grant, token, now int) api.Errno {
	t.Helper()
	got, e := scheduler.Take(s, g, token, now)
	want, wantErr := taken(s, g, token, now)
	if e != wantErr || !equal(got, want) {
		t.Fatalf("Take(%+v, %v, %d, %d) = %+v, %v, want %+v, %v", s, g, token, now, got, e, want, wantErr)
	}
	return e
}

func expectAssign(t *testing.T, s api.Sched, token, now int) (api.Sched, []api.Grant) {
	t.Helper()
	got, l := scheduler.Assign(s, token, now)
	want, list := assigned(s, token, now)
	if !slices.Equal(l, list) || !equal(got, want) {
		t.Fatalf("Assign(%+v, %d, %d) = %+v, %v, want %+v, %v", s, token, now, got, l, want, list)
	}
	return got, l
}

func expectRelease(t *testing.T, s api.Sched, ref api.JobRef, worker string, token int) {
	t.Helper()
	got, want := scheduler.Release(s, ref, worker, token), released(s, ref, worker, token)
	if !equal(got, want) {
		t.Fatalf("Release(%+v, %v, %q, %d) = %+v, want %+v", s, ref, worker, token, got, want)
	}
}

// P26.1 to P26.8: states by chance, valid ones and others.
func TestStates(t *testing.T) {
	counts := map[api.Errno]int{}
	grants := 0
	for i := range 12000 {
		w := wild([]int{0, 100, 10}[i%3])
		s, now := w.state(), w.number(of(0, 1000, 2000, 3000, 60000, 180000))
		before := copied(s)
		expectState(t, s, now)
		if e := scheduler.Valid(s); e != api.OK && w == 0 {
			t.Fatalf("Valid(%+v) = %v", s, e)
		}
		for range 5 {
			g := grant(s)
			token := w.number(of(1+chance.IntN(45), 45+chance.IntN(10)))
			counts[expectTake(t, s, g, token, now)]++
			expectRelease(t, s, g.Ref, g.Worker, token)
		}
		for _, m := range s.Workers {
			for _, held := range m.Tokens {
				expectRelease(t, s, of(references(3)...), m.ID, held)
			}
		}
		_, l := expectAssign(t, s, of(41, 41, w.number(1+chance.IntN(45))), now)
		grants += len(l)
		if !reflect.DeepEqual(s, before) {
			t.Fatalf("%+v became %+v", before, s)
		}
	}
	for _, e := range []api.Errno{api.OK, api.ErrNotFound, api.ErrState, api.ErrExists, api.ErrRange, api.ErrInvalid, api.ErrLimit} {
		if counts[e] < 20 {
			t.Error("Take returned", e, counts[e], "times")
		}
	}
	if grants < 5000 {
		t.Error(grants, "grants")
	}
}

// job returns a job of the project p.
func job(name string) api.Pending {
	return api.Pending{Ref: api.JobRef{Run: "r", Job: name}, Project: "p", Cost: 2, Trust: api.TrustBranch}
}

// simple returns a valid state with a project and workers with a slot each.
func simple(jobs []api.Pending, workers ...string) api.Sched {
	s := api.Sched{
		Queue:    jobs,
		Shares:   []api.Share{{Project: "p", Weight: 1}},
		Accounts: []api.Account{{Project: "p", Bucket: api.Bucket{Burst: api.MaxCost, Level: 1000 * api.MaxCost}}},
	}
	for _, id := range workers {
		s.Workers = append(s.Workers, api.Worker{ID: id, Slots: 1, Trust: api.TrustProtected})
	}
	return s
}

var edges = []int{math.MinInt, math.MinInt + 1, -1, 0, 1, 2, 3, 63, 64, 65, api.MaxCost, api.MaxCost + 1, api.MaxTime, api.MaxTime + 1, math.MaxInt / 1000, math.MaxInt/1000 + 1, math.MaxInt - 1, math.MaxInt}

// P26.1: all trust levels and phases, slots at the edges of all ranges.
func TestFits(t *testing.T) {
	for _, w := range []api.Worker{{}, {Labels: []string{"cpu=4", "linux"}}, {Tokens: []int{7}}, {Tokens: []int{1, 2, 5}}} {
		for _, p := range []api.Pending{{}, {Labels: []string{"linux"}}, {Labels: []string{"cpu>=5"}}} {
			for _, slots := range edges {
				for _, phase := range edges {
					w.Slots, w.Phase = slots, phase
					for _, w.Trust = range []int{math.MinInt, -1, 0, 1, 2, 3, math.MaxInt} {
						for _, p.Trust = range []int{math.MinInt, -1, 0, 1, 2, 3, math.MaxInt} {
							if got, want := scheduler.Fits(w, p), fits(w, p); got != want {
								t.Fatalf("Fits(%+v, %+v) = %v", w, p, got)
							}
						}
					}
				}
			}
		}
	}
}

// P26.2: costs, levels and times at the edges of all ranges, and a level that is one thousandth too low.
func TestEligible(t *testing.T) {
	s := simple(nil, "w")
	bucket := &s.Accounts[0].Bucket
	for _, cost := range edges {
		for _, bucket.Level = range append([]int{1999, 2000, 2001, 2999, 3000, 1000*api.MaxCost - 1, 1000 * api.MaxCost, 1000*api.MaxCost + 1}, edges...) {
			for _, now := range edges {
				p := job("a")
				p.Cost = cost
				if got, want := scheduler.Eligible(s, p, now), eligible(s, p, now); got != want {
					t.Fatalf("Eligible(%+v, %+v, %d) = %v", s, p, now, got)
				}
			}
		}
	}
}

// P26.2: each condition alone. The job need not be in the queue.
func TestConditions(t *testing.T) {
	p := job("a")
	if !scheduler.Eligible(simple(nil, "w"), p, 0) {
		t.Fatal("all conditions hold")
	}
	for name, change := range map[string]func(s *api.Sched){
		"share":     func(s *api.Sched) { s.Shares[0].Project = "q" },
		"account":   func(s *api.Sched) { s.Accounts[0].Project = "q" },
		"level":     func(s *api.Sched) { s.Accounts[0].Bucket.Level = 1999 },
		"no bucket": func(s *api.Sched) { s.Accounts[0].Bucket.Rate = -1 },
		"worker":    func(s *api.Sched) { s.Workers = nil },
		"slots":     func(s *api.Sched) { s.Workers[0].Tokens = []int{5} },
	} {
		s := simple(nil, "w")
		change(&s)
		if scheduler.Eligible(s, p, 0) {
			t.Error(name)
		}
	}
	s := simple(nil, "w")
	other := api.JobRef{Run: "r", Job: "other"}
	for _, c := range []struct {
		group  string
		groups []api.Group
		want   bool
	}{
		{"", nil, true},
		{"", []api.Group{{}}, true},
		{"g", nil, false},
		{"g", []api.Group{{Name: "g", Running: p.Ref}}, true},
		{"g", []api.Group{{Name: "g", Waiting: []api.JobRef{p.Ref, other}}}, true},
		{"g", []api.Group{{Name: "g", Waiting: []api.JobRef{other, p.Ref}}}, false},
		{"g", []api.Group{{Name: "g", Running: other, Waiting: []api.JobRef{p.Ref}}}, false},
		{"g", []api.Group{{Name: "h", Running: p.Ref}}, false},
		{"g", []api.Group{{Name: "g", Running: p.Ref}, {Name: "h"}}, false},
		{"g", []api.Group{{Name: "g", Running: p.Ref}, {Name: "h", Running: p.Ref}}, false},
		{"g", []api.Group{{Name: "g", Running: p.Ref, Waiting: []api.JobRef{other, {}}}}, false},
		{"g", []api.Group{{Name: "a", Running: other}, {Name: "g", Running: p.Ref}}, true},
	} {
		s.Groups, p.Group = c.groups, c.group
		if got := scheduler.Eligible(s, p, 0); got != c.want || got != eligible(s, p, 0) {
			t.Errorf("with %v a job of %q: %v", c.groups, c.group, got)
		}
	}
}

// P26.3: each criterion, for workers in any order.
func TestChoose(t *testing.T) {
	workers := []api.Worker{
		{ID: "w2", Slots: 5, Tokens: []int{1, 2}},
		{ID: "w10", Slots: 3},
		{ID: "w1", Slots: 9, Tokens: []int{3, 4, 5, 6, 7, 8, 9}},
		{ID: "w1", Slots: 64, Labels: []string{"a"}},
		{ID: "w0", Slots: 64, Labels: []string{"a", "b"}},
	}
	for i := range workers {
		workers[i].Trust = api.TrustBranch
	}
	s := api.Sched{Workers: slices.Clone(workers)}
	p := job("j")
	for _, want := range []string{"w2", "w10", "w1", "w1", "w0"} {
		for range 50 {
			chance.Shuffle(len(s.Workers), func(i, j int) { s.Workers[i], s.Workers[j] = s.Workers[j], s.Workers[i] })
			if id, is := scheduler.Choose(s, p); id != want || !is {
				t.Fatalf("Choose(%+v) = %q, %v, want %q", s, id, is, want)
			}
		}
		best := slices.IndexFunc(s.Workers, func(w api.Worker) bool { return reflect.DeepEqual(w, workers[0]) })
		s.Workers, workers = slices.Delete(s.Workers, best, best+1), workers[1:]
	}
	if id, is := scheduler.Choose(s, p); id != "" || is {
		t.Error(id, is)
	}
}

// P26.4: the project, the job and the worker of the next grant.
func TestNext(t *testing.T) {
	jobs := []api.Pending{job("a"), job("b"), job("c"), job("d")}
	jobs[1].Priority, jobs[2].Priority, jobs[3].Priority = 3, 4, 9
	jobs[2].Labels = []string{"gpu"} // which no worker satisfies
	jobs[3].Project = "q"
	s := simple(jobs, "w1", "w2")
	s.Shares = []api.Share{{Project: "p", Weight: 2, Served: 6}, {Project: "q", Weight: 1, Served: 3}}
	s.Accounts = append(s.Accounts, api.Account{Project: "q", Bucket: s.Accounts[0].Bucket})
	expect := func(want string) {
		t.Helper()
		g, is := scheduler.Next(s, 0)
		if is != (want != "") || is && (g.Ref.Job != want || g.Worker != "w1") || !is && g != (api.Grant{}) {
			t.Errorf("Next = %v, %v, want %q", g, is, want)
		}
	}
	expect("b")
	s.Shares[0].Served = 7
	expect("d")
	s.Queue[3].Cost = api.MaxCost + 1
	expect("b")
	s.Queue[0].Since = -10 * 60000
	s.Queue[0].Priority = 2
	expect("a")
	s.Shares[1].Weight = 0
	expect("")
	s.Shares[1].Weight = 1
	s.Workers = nil
	expect("")
}

// P26.4: requirements that look alike when they are written one after the other.
func TestSimilarRequirements(t *testing.T) {
	for _, lists := range [][2][]string{
		{{"1", "aaaa", "bbbbb"}, {"4aaaa5bbbbb"}},
		{{"a", "b"}, {"ab"}},
		{{"a,b"}, {"a", "b"}},
		{{"a1:b"}, {"a", "b"}},
	} {
		for i, labels := range lists {
			a, b := job("a"), job("b")
			a.Labels, b.Labels = lists[0], lists[1]
			s := simple([]api.Pending{a, b}, "w")
			s.Workers[0].Labels = labels
			expectState(t, s, 0)
			_, l := expectAssign(t, s, 1, 0)
			if fit := label.Need(labels) == api.OK; fit != (len(l) == 1 && l[0].Ref == s.Queue[i].Ref) {
				t.Errorf("the worker with the labels %q: %v", labels, l)
			}
		}
	}
}

// P26.5: if several errors apply, the first one that is named is returned.
func TestTakeErrors(t *testing.T) {
	const held = 9
	build := func() api.Sched {
		s := simple([]api.Pending{job("a"), job("b")}, "v", "w")
		s.Workers[0].Tokens = []int{held}
		return s
	}
	type request struct {
		api.Sched
		g     api.Grant
		token int
	}
	faults := []struct {
		e     api.Errno
		spoil func(r *request)
	}{
		{api.ErrNotFound, func(r *request) { r.g.Ref.Run = "s" }},
		{api.ErrNotFound, func(r *request) { r.g.Worker = "x" }},
		{api.ErrState, func(r *request) { r.Accounts[0].Project = "q" }},
		{api.ErrState, func(r *request) { r.Workers[1].Slots = 0 }},
		{api.ErrExists, func(r *request) { r.token = held }},
		{api.ErrRange, func(r *request) { r.token = min(r.token, 0) }},
		{api.ErrInvalid, func(r *request) { r.Shares[0].Weight = 0 }},
		{api.ErrRange, func(r *request) { r.Queue[1].Cost = 0 }},
		{api.ErrLimit, func(r *request) { r.Shares[0].Served = api.MaxTime }},
	}
	for i, first := range faults {
		for j, second := range faults[i:] {
			r := request{build(), api.Grant{Ref: job("b").Ref, Worker: "w"}, 10}
			second.spoil(&r)
			first.spoil(&r)
			if first.e == api.ErrExists && r.token == held && second.e == api.ErrRange {
				// A token below 1 that some worker has.
				r.token, r.Workers[0].Tokens = -1, []int{-1}
			}
			if e := expectTake(t, r.Sched, r.g, r.token, 0); e != first.e {
				t.Errorf("faults %d and %d: %v, want %v", i, i+j, e, first.e)
			}
		}
	}
	if e := expectTake(t, build(), api.Grant{Ref: job("b").Ref, Worker: "w"}, 10, 0); e != api.OK {
		t.Error(e)
	}
}

// P26.5: the place of a token, and the groups.
func TestTake(t *testing.T) {
	for _, token := range []int{1, 2, 3, 5, 6, 9, 10, api.MaxTime + 1, math.MaxInt} {
		for _, tokens := range [][]int{nil, {4}, {4, 8}, {8, 4}, {8, 8, 4, 8}, {-1, 0}} {
			s := simple([]api.Pending{job("a")}, "v", "w", "w")
			s.Workers[1].Slots, s.Workers[1].Tokens = 9, tokens
			if e := expectTake(t, s, api.Grant{Ref: job("a").Ref, Worker: "w"}, token, 5); e != api.OK {
				t.Error(e)
			}
		}
	}
	p := job("a")
	p.Group = "g"
	other := api.JobRef{Run: "r", Job: "other"}
	for _, gs := range [][]api.Group{
		{{Name: "g", Running: p.Ref}},
		{{Name: "g", Running: p.Ref, Waiting: []api.JobRef{other}}},
		{{Name: "a", Waiting: []api.JobRef{{Run: "r", Job: "x"}}}, {Name: "g", Waiting: []api.JobRef{p.Ref, other}}, {Name: "h", Waiting: []api.JobRef{{Run: "r", Job: "y"}}}},
	} {
		s := simple([]api.Pending{job("b"), p}, "w")
		s.Groups = gs
		if e := expectTake(t, s, api.Grant{Ref: p.Ref, Worker: "w"}, 1, 5); e != api.OK {
			t.Error(e)
		}
	}
}

// P26.4, P26.5, P26.6: of jobs with the same reference and workers with the same ID, the first one is taken, whichever one is chosen.
func TestSameNames(t *testing.T) {
	first, second := job("a"), job("a")
	second.Priority = 9
	for _, change := range []func(p *api.Pending){
		func(p *api.Pending) {},
		func(p *api.Pending) { p.Project = "q" },
		func(p *api.Pending) { p.Project, p.Cost = "q", 3 },
		func(p *api.Pending) { p.Labels = []string{"linux"} },
		func(p *api.Pending) { p.Labels = []string{"?"} },
		func(p *api.Pending) { p.Cost = 1 },
		func(p *api.Pending) { p.Cost = 7 },
		func(p *api.Pending) { p.Group = "x" },
		func(p *api.Pending) { p.Trust = api.TrustProtected },
		func(p *api.Pending) { p.Since = 60000 },
		func(p *api.Pending) { p.Policy = api.PolicyReplace },
		func(p *api.Pending) { p.Priority = 0 },
	} {
		for _, swap := range []bool{false, true} {
			one, two := first, second
			change(&one)
			jobs := []api.Pending{one, two, one, two, job("b")}
			if swap {
				jobs = []api.Pending{two, one, job("b"), two, one}
			}
			s := simple(jobs, "w", "v", "w", "u")
			s.Shares = append(s.Shares, api.Share{Project: "q", Weight: 2})
			s.Accounts[0].Bucket.Level = 5000
			s.Accounts = append(s.Accounts, api.Account{Project: "q", Bucket: s.Accounts[0].Bucket}, s.Accounts[0])
			s.Workers[0].Slots, s.Workers[3].Labels = 2, []string{"linux"}
			for token := range 3 {
				expectAssign(t, s, token, 60000)
				expectState(t, s, 60000)
				for _, id := range []string{"u", "v", "w"} {
					expectTake(t, s, api.Grant{Ref: one.Ref, Worker: id}, token, 0)
					expectRelease(t, s, one.Ref, id, token)
				}
			}
		}
	}
}

// P26.6: tokens at the edges of their range.
func TestAssignTokens(t *testing.T) {
	for _, token := range edges {
		s := simple([]api.Pending{job("a"), job("b")}, "v", "w")
		u, l := expectAssign(t, s, token, 0)
		if permitted := token >= 1 && token <= api.MaxTime; (len(l) == 2) != permitted {
			t.Error(token, l)
		}
		if len(l) == 2 && (u.Workers[0].Tokens[0] != token || u.Workers[1].Tokens[0] != token+1) {
			t.Error(u)
		}
		s.Workers[1].Tokens, s.Workers[1].Slots = []int{6}, 2
		if _, l := expectAssign(t, s, 5, 0); len(l) != 1 {
			t.Error(l)
		}
	}
}

// P26.7: all occurrences of the token, and jobs that run or wait.
func TestRelease(t *testing.T) {
	a, b, c := job("a").Ref, job("b").Ref, job("c").Ref
	for _, gs := range [][]api.Group{
		nil,
		{{Name: "g", Running: a, Waiting: []api.JobRef{b, c}}},
		{{Name: "g", Running: a}, {Name: "h", Waiting: []api.JobRef{b}}},
		{{Name: "g", Waiting: []api.JobRef{c, b}}, {Name: "g", Running: b}}, // which are not valid
	} {
		for _, tokens := range [][]int{nil, {1}, {1, 2}, {2, 1, 2, 3, 2}, {0, -1, 2}} {
			s := simple([]api.Pending{job("a")}, "v", "w", "w")
			s.Groups = gs
			for i := range s.Workers {
				s.Workers[i].Tokens = slices.Clone(tokens)
			}
			for _, ref := range []api.JobRef{a, b, c, {}} {
				for _, worker := range []string{"v", "w", "x", ""} {
					for _, token := range []int{-1, 0, 1, 2, 3, 4} {
						expectRelease(t, s, ref, worker, token)
					}
				}
			}
		}
	}
}

// P26.8: each fault, and the first of two.
func TestValid(t *testing.T) {
	type fault struct {
		e     api.Errno
		spoil func(s *api.Sched)
	}
	faults := []fault{
		{api.ErrLimit, func(s *api.Sched) { s.Queue = slices.Repeat(s.Queue[:1], api.MaxPending+1) }},
		{api.ErrRange, func(s *api.Sched) { s.Queue[0].Cost = 0 }},
		{api.ErrExists, func(s *api.Sched) { s.Queue[1].Ref = s.Queue[0].Ref }},
		{api.ErrRange, func(s *api.Sched) { s.Queue[1].Cost = api.MaxCost + 1 }},
		{api.ErrExists, func(s *api.Sched) { s.Queue[2].Ref = s.Queue[0].Ref }},
		{api.ErrRange, func(s *api.Sched) { s.Queue[2].Cost = math.MinInt }},
		{api.ErrInvalid, func(s *api.Sched) { s.Shares[1].Project = "a" }},
		{api.ErrInvalid, func(s *api.Sched) { s.Accounts[1].Project = "p" }},
		{api.ErrInvalid, func(s *api.Sched) { s.Groups[0].Name = "" }},
		{api.ErrRange, func(s *api.Sched) { s.Workers[0].Slots = -1 }},
		{api.ErrInvalid, func(s *api.Sched) { s.Workers[0].Tokens[0] = 0 }},
		{api.ErrInvalid, func(s *api.Sched) { s.Workers[0].Tokens[1] = s.Workers[0].Tokens[0] }},
		{api.ErrLimit, func(s *api.Sched) { s.Workers[0].Slots = 2 }},
		{api.ErrInvalid, func(s *api.Sched) { s.Workers[1].ID = "v" }},
		{api.ErrRange, func(s *api.Sched) { s.Workers[1].Slots = api.MaxSlots + 1 }},
		{api.ErrInvalid, func(s *api.Sched) { s.Workers[1].Tokens[1] = 2 }},
		{api.ErrExists, func(s *api.Sched) { s.Workers[1].Tokens[1] = 7 }},
		{api.ErrLimit, func(s *api.Sched) { s.Workers[1].Slots = 1 }},
		{api.ErrInvalid, func(s *api.Sched) { s.Workers[2].ID = "v" }},
		{api.ErrExists, func(s *api.Sched) { s.Workers[2].Tokens[0] = 5 }},
	}
	build := func() api.Sched {
		s := simple([]api.Pending{job("a"), job("b"), job("c")}, "v", "w", "x")
		s.Queue[0].Cost, s.Queue[1].Cost = 1, api.MaxCost
		s.Queue[2].Ref.Run = "r2"
		s.Shares = append(s.Shares, api.Share{Project: "q", Weight: -1})
		s.Accounts = append(s.Accounts, api.Account{Project: "q", Bucket: api.Bucket{Rate: -1}})
		s.Groups = []api.Group{{Name: "g", Running: s.Queue[0].Ref}}
		s.Workers[0].Slots, s.Workers[0].Tokens = 3, []int{1, 3, 7}
		s.Workers[1].Slots, s.Workers[1].Tokens = api.MaxSlots, []int{2, 5}
		s.Workers[2].Tokens = []int{4}
		return s
	}
	if e := scheduler.Valid(build()); e != api.OK {
		t.Fatal(e)
	}
	for i, first := range faults {
		for j, second := range faults[i:] {
			s := build()
			second.spoil(&s)
			first.spoil(&s)
			e := scheduler.Valid(s)
			if e != validated(s) || j == 0 && e != first.e {
				t.Errorf("faults %d and %d: %v, want %v", i, i+j, e, validated(s))
			}
		}
	}
	if e := scheduler.Valid(api.Sched{Workers: []api.Worker{{}}}); e != api.OK {
		t.Error(e)
	}
}

// P26.8: the limits are permitted.
func TestLimits(t *testing.T) {
	s := simple(nil, "w")
	for i := range api.MaxPending {
		s.Queue = append(s.Queue, job(strconv.Itoa(i)))
	}
	s.Workers[0].Slots = api.MaxSlots
	for i := range api.MaxSlots {
		s.Workers[0].Tokens = append(s.Workers[0].Tokens, math.MaxInt-api.MaxSlots+i)
	}
	if e := scheduler.Valid(s); e != api.OK {
		t.Error(e)
	}
	s.Queue = append(s.Queue, job("x"))
	s.Queue[0].Cost = 0
	if e := scheduler.Valid(s); e != api.ErrLimit {
		t.Error(e)
	}
}

// P26.9, P26.10, P26.11, P26.12: valid states by chance.
func TestConsequences(t *testing.T) {
	decisions := 0
	for range 4000 {
		s, now := wild(0).state(), of(0, 1000, 60000)
		const token = 41 // above all tokens
		u, grants := scheduler.Assign(s, token, now)
		decisions += len(grants)
		if e := scheduler.Valid(u); e != api.OK {
			t.Fatalf("Assign(%+v) = %+v, which is not valid: %v", s, u, e)
		}
		for _, a := range u.Accounts {
			if a.Bucket.Level < 0 {
				t.Fatalf("Assign(%+v) = %+v", s, u)
			}
		}
		expectComplete(t, s, u, grants, now)
		expectExact(t, s, u, grants)
		for i, g := range grants {
			expectFair(t, s, g, now)
			s, _ = scheduler.Take(s, g, token+i, now)
		}
		if !equal(s, u) {
			t.Fatalf("Take one by one: %+v, want %+v", s, u)
		}
	}
	if decisions < 2000 {
		t.Error(decisions, "decisions")
	}
}

// expectComplete checks P26.10.
func expectComplete(t *testing.T, s, u api.Sched, grants []api.Grant, now int) {
	t.Helper()
	g, is := scheduler.Next(u, now)
	if !is {
		return
	}
	if _, e := scheduler.Take(u, g, 41+len(grants), now); e != api.ErrLimit {
		t.Fatalf("Assign(%+v) = %v, but the next grant is %v", s, grants, g)
	}
}

// expectExact checks P26.11 and that at most one job of a group was granted (P26.9).
func expectExact(t *testing.T, s, u api.Sched, grants []api.Grant) {
	t.Helper()
	var rest []api.Pending
	groups := map[string]bool{}
	for _, p := range s.Queue {
		at := slices.IndexFunc(grants, func(g api.Grant) bool { return g.Ref == p.Ref })
		if at < 0 {
			rest = append(rest, p)
			continue
		}
		w := s.Workers[slices.IndexFunc(s.Workers, func(w api.Worker) bool { return w.ID == grants[at].Worker })]
		if !fits(w, p) || p.Group != "" && groups[p.Group] {
			t.Fatalf("Assign(%+v) = %v", s, grants)
		}
		groups[p.Group] = true
	}
	if len(rest)+len(grants) != len(s.Queue) || len(rest) != len(u.Queue) || len(rest) > 0 && !reflect.DeepEqual(rest, u.Queue) {
		t.Fatalf("Assign(%+v) = %v, and the queue %v", s, grants, u.Queue)
	}
}

// expectFair checks P26.12.
func expectFair(t *testing.T, s api.Sched, g api.Grant, now int) {
	t.Helper()
	ratio := func(project string) *big.Rat {
		x := s.Shares[slices.IndexFunc(s.Shares, func(x api.Share) bool { return x.Project == project })]
		return big.NewRat(int64(x.Served), int64(x.Weight))
	}
	granted := s.Queue[slices.IndexFunc(s.Queue, func(p api.Pending) bool { return p.Ref == g.Ref })]
	for _, p := range s.Queue {
		if eligible(s, p, now) && ratio(granted.Project).Cmp(ratio(p.Project)) > 0 {
			t.Fatalf("%v is granted before %v in %+v", granted, p, s)
		}
	}
}

// P26.2, P26.3, P26.6, P26.7: the chapter's examples.
func TestExamples(t *testing.T) {
	a, b := job("a"), job("b")
	b.Priority = 1
	s, l := scheduler.Assign(simple([]api.Pending{a, b}, "w"), 1, 0)
	if !slices.Equal(l, []api.Grant{{Ref: b.Ref, Worker: "w"}}) {
		t.Error(l)
	}
	if _, l := scheduler.Assign(s, 2, 0); len(l) != 0 {
		t.Error(l)
	}
	if s, l = scheduler.Assign(scheduler.Release(s, b.Ref, "w", 1), 2, 0); !slices.Equal(l, []api.Grant{{Ref: a.Ref, Worker: "w"}}) || len(s.Queue) > 0 {
		t.Error(l)
	}
	s = simple(nil, "a", "b")
	s.Workers[0].Labels, s.Workers[1].Labels = []string{"gpu", "linux"}, []string{"linux"}
	a.Labels = []string{"linux"}
	if id, is := scheduler.Choose(s, a); id != "b" || !is {
		t.Error(id, is)
	}
	a.Cost = 5
	s.Accounts[0].Bucket.Level = 4000
	if scheduler.Eligible(s, a, 0) {
		t.Error("4 units are not enough")
	}
}

// R5: arguments, with their spare capacity, remain as they are, and results do not share their memory.
func TestMemory(t *testing.T) {
	for range 2000 {
		whole := wild(0).state()
		s := whole
		// What is cut off is spare capacity.
		s.Queue, s.Shares, s.Workers = cut(s.Queue), cut(s.Shares), cut(s.Workers)
		for i := range s.Workers {
			s.Workers[i].Tokens = cut(s.Workers[i].Tokens)
		}
		for i := range s.Groups {
			s.Groups[i].Waiting = cut(s.Groups[i].Waiting)
		}
		before, all := copied(s), copied(whole)
		var results []api.Sched
		u, l := scheduler.Assign(s, 41, 0)
		if g, is := scheduler.Next(s, 0); is {
			results = append(results, u)
			if taken, e := scheduler.Take(s, g, 41, 0); e == api.OK {
				results = append(results, taken)
			}
		}
		for _, g := range l {
			results = append(results, scheduler.Release(s, g.Ref, g.Worker, 41), scheduler.Release(u, g.Ref, g.Worker, 41))
		}
		for _, w := range s.Workers {
			results = append(results, scheduler.Release(s, api.JobRef{}, w.ID, 41))
		}
		for _, result := range results {
			overwrite(result)
		}
		if !reflect.DeepEqual(s, before) || !reflect.DeepEqual(whole, all) {
			t.Fatalf("%+v became %+v", all, whole)
		}
	}
}

func cut[T any](list []T) []T { return list[:max(0, len(list)-1)] }

// overwrite changes all memory of a state.
func overwrite(s api.Sched) {
	for _, p := range s.Queue[:cap(s.Queue)] {
		clear(p.Labels[:cap(p.Labels)])
	}
	for _, g := range s.Groups[:cap(s.Groups)] {
		clear(g.Waiting[:cap(g.Waiting)])
	}
	for _, w := range s.Workers[:cap(s.Workers)] {
		clear(w.Labels[:cap(w.Labels)])
		clear(w.Tokens[:cap(w.Tokens)])
	}
	clear(s.Queue[:cap(s.Queue)])
	clear(s.Shares[:cap(s.Shares)])
	clear(s.Accounts[:cap(s.Accounts)])
	clear(s.Groups[:cap(s.Groups)])
	clear(s.Workers[:cap(s.Workers)])
}

// P26.9, P26.10, P26.11: all limits are reached, and every job waits in a group.
func TestLargeState(t *testing.T) {
	const now = 60000
	var s api.Sched
	for i := range api.MaxProjects {
		name := "p" + strconv.Itoa(i)
		s.Shares = append(s.Shares, api.Share{Project: name, Weight: 1 + chance.IntN(api.MaxWeight)})
		s.Accounts = append(s.Accounts, api.Account{Project: name, Bucket: api.Bucket{Rate: 1, Burst: api.MaxCost, Level: 1000 * chance.IntN(api.MaxCost)}})
	}
	for i := range api.MaxPending {
		p := job("j" + strconv.Itoa(i))
		p.Project, p.Group, p.Cost, p.Since = of(s.Shares...).Project, "g"+strconv.Itoa(i/2), 1+chance.IntN(1000), chance.IntN(now)
		p.Labels = []string{"cpu>=" + strconv.Itoa(chance.IntN(100)), "linux"}
		s.Queue = append(s.Queue, p)
		if i%2 == 0 {
			s.Groups = append(s.Groups, api.Group{Name: p.Group})
		}
		s.Groups[i/2].Waiting = append(s.Groups[i/2].Waiting, p.Ref)
	}
	for i := range api.MaxWorkers {
		w := api.Worker{ID: "w" + strconv.Itoa(i), Labels: []string{"cpu=" + strconv.Itoa(chance.IntN(100)), "linux"}, Slots: 6, Trust: api.TrustBranch}
		s.Workers = append(s.Workers, w)
	}
	if e := scheduler.Valid(s); e != api.OK {
		t.Fatal(e)
	}
	u, l := scheduler.Assign(s, 1, now)
	if len(l) < 500 || scheduler.Valid(u) != api.OK {
		t.Error(len(l))
	}
	expectComplete(t, s, u, l, now)
	expectExact(t, s, u, l)
	for _, p := range s.Queue[:50] {
		if got, want := scheduler.Eligible(s, p, now), eligible(s, p, now); got != want {
			t.Fatalf("Eligible(.., %+v, %d) = %v", p, now, got)
		}
	}
}

// P26.6: at most MaxPending decisions are made.
func TestMostDecisions(t *testing.T) {
	var s api.Sched
	for i := range api.MaxPending + 2 {
		s.Queue = append(s.Queue, job("j"+strconv.Itoa(i)))
	}
	machine := api.Worker{ID: "w", Slots: math.MaxInt, Trust: api.TrustProtected}
	rest := simple(nil)
	s.Shares, s.Accounts, s.Workers = rest.Shares, rest.Accounts, []api.Worker{machine}
	u, l := scheduler.Assign(s, 1, 0)
	if len(l) != api.MaxPending || len(u.Queue) != 2 || len(u.Workers[0].Tokens) != api.MaxPending {
		t.Error(len(l), len(u.Queue))
	}
}
