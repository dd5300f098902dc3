package concurrency_test

import (
	"math"
	"math/rand/v2"
	"reflect"
	"slices"
	"strconv"
	"strings"
	"testing"

	"pipeline/api"
	"pipeline/concurrency"
	"pipeline/ident"
)

var none api.JobRef

func job(s string) api.JobRef { return api.JobRef{Run: "r/1", Job: s} }

func isPath(s string) bool {
	_, e := ident.Parts(s)
	return e == api.OK
}

func isJob(ref api.JobRef) bool { return isPath(ref.Run) && isPath(ref.Job) }

// members returns the jobs of a group: the running one and those that wait.
func members(g api.Group) []api.JobRef {
	var refs []api.JobRef
	if g.Running != none {
		refs = append(refs, g.Running)
	}
	return append(refs, g.Waiting...)
}

// isValid is the chapter's definition of valid groups.
func isValid(gs []api.Group) bool {
	var all []api.JobRef
	for i, g := range gs {
		for _, earlier := range gs[:i] {
			if ident.Compare(earlier.Name, g.Name) >= 0 {
				return false
			}
		}
		refs := members(g)
		if !isPath(g.Name) || len(refs) == 0 {
			return false
		}
		for _, ref := range refs {
			if !isJob(ref) || slices.Contains(all, ref) {
				return false
			}
			all = append(all, ref)
		}
	}
	return len(all) <= api.MaxPending
}

// same reports whether groups are equal. Empty lists may be nil or not.
func same(a, b []api.Group) bool {
	return slices.EqualFunc(a, b, func(x, y api.Group) bool {
		return x.Name == y.Name && x.Running == y.Running && slices.Equal(x.Waiting, y.Waiting)
	})
}

// table returns the jobs of each group by its name; the first one is none if none runs.
func table(gs []api.Group) map[string][]api.JobRef {
	rows := map[string][]api.JobRef{}
	for _, g := range gs {
		rows[g.Name] = append([]api.JobRef{g.Running}, g.Waiting...)
	}
	return rows
}

// listed returns the groups of a table that have jobs.
func listed(rows map[string][]api.JobRef) []api.Group {
	var gs []api.Group
	for name, refs := range rows {
		if len(refs) > 1 || refs[0] != none {
			gs = append(gs, api.Group{Name: name, Running: refs[0], Waiting: refs[1:]})
		}
	}
	slices.SortFunc(gs, func(a, b api.Group) int { return ident.Compare(a.Name, b.Name) })
	return gs
}

func total(gs []api.Group) int {
	sum := 0
	for _, g := range gs {
		sum += len(members(g))
	}
	return sum
}

func within(gs []api.Group, ref api.JobRef) bool {
	return slices.ContainsFunc(gs, func(g api.Group) bool { return slices.Contains(members(g), ref) })
}

// entered is what P24.2 says about Enter.
func entered(gs []api.Group, name string, ref api.JobRef, policy int) ([]api.Group, api.Admission, api.Errno) {
	switch {
	case !isValid(gs) || !isJob(ref):
		return gs, api.Admission{}, api.ErrInvalid
	case !isPath(name):
		return gs, api.Admission{}, api.ErrName
	case policy != api.PolicyQueue && policy != api.PolicyLatest && policy != api.PolicyReplace:
		return gs, api.Admission{}, api.ErrRange
	case within(gs, ref):
		return gs, api.Admission{}, api.ErrExists
	case total(gs) >= api.MaxPending:
		return gs, api.Admission{}, api.ErrFull
	}
	rows := table(gs)
	refs := rows[name]
	if len(refs) == 0 {
		rows[name] = []api.JobRef{ref}
		return listed(rows), api.Admission{Run: true}, api.OK
	}
	var a api.Admission
	switch policy {
	case api.PolicyQueue:
		rows[name] = append(refs, ref)
	case api.PolicyLatest:
		rows[name] = []api.JobRef{refs[0], ref}
		a.Cancel = refs[1:]
	case api.PolicyReplace:
		rows[name] = []api.JobRef{refs[0], ref}
		a.Cancel = slices.DeleteFunc(slices.Clone(refs), func(r api.JobRef) bool { return r == none })
	}
	return listed(rows), a, api.OK
}

// leaves is what P24.3 says about Leave.
func leaves(gs []api.Group, ref api.JobRef) []api.Group {
	if !isValid(gs) {
		return gs
	}
	rows := table(gs)
	for name, refs := range rows {
		if refs[0] == ref {
			refs[0] = none
		}
		if at := slices.Index(refs[1:], ref); at >= 0 {
			rows[name] = slices.Delete(refs, at+1, at+2)
		}
	}
	return listed(rows)
}

// started is what P24.4 says about Start.
func started(gs []api.Group, name string, ref api.JobRef) ([]api.Group, api.Errno) {
	rows := table(gs)
	refs, exists := rows[name]
	switch {
	case !isValid(gs):
		return gs, api.ErrInvalid
	case !exists:
		return gs, api.ErrNotFound
	case refs[0] != none:
		return gs, api.ErrState
	case refs[1] != ref:
		return gs, api.ErrOrder
	}
	rows[name] = refs[1:]
	return listed(rows), api.OK
}

// may is what P24.5 says about May.
func may(gs []api.Group, name string, ref api.JobRef) bool {
	if name == "" || !isValid(gs) {
		return name == ""
	}
	at := slices.IndexFunc(gs, func(g api.Group) bool { return g.Name == name })
	return at >= 0 && members(gs[at])[0] == ref
}

// expect compares all functions with what the promises say, and checks that results are valid (P24.6).
func expect(t *testing.T, gs []api.Group, name string, ref api.JobRef, policy int) {
	t.Helper()
	next, a, err := concurrency.Enter(gs, name, ref, policy)
	wantNext, wantA, wantErr := entered(gs, name, ref, policy)
	if !same(next, wantNext) || a.Run != wantA.Run || !slices.Equal(a.Cancel, wantA.Cancel) || err != wantErr {
		t.Fatalf("Enter(%v, %q, %v, %d) = %v, %v, %v, want %v, %v, %v", gs, name, ref, policy, next, a, err, wantNext, wantA, wantErr)
	}
	left, wantLeft := concurrency.Leave(gs, ref), leaves(gs, ref)
	if !same(left, wantLeft) {
		t.Fatalf("Leave(%v, %v) = %v, want %v", gs, ref, left, wantLeft)
	}
	begun, err := concurrency.Start(gs, name, ref)
	wantBegun, wantErr := started(gs, name, ref)
	if !same(begun, wantBegun) || err != wantErr {
		t.Fatalf("Start(%v, %q, %v) = %v, %v, want %v, %v", gs, name, ref, begun, err, wantBegun, wantErr)
	}
	if got, want := concurrency.May(gs, name, ref), may(gs, name, ref); got != want {
		t.Fatalf("May(%v, %q, %v) = %v, want %v", gs, name, ref, got, want)
	}
	for _, result := range [][]api.Group{next, left, begun} {
		expectValid(t, result, isValid(gs))
	}
}

func expectValid(t *testing.T, gs []api.Group, valid bool) {
	t.Helper()
	want := api.ErrInvalid
	if valid {
		want = api.OK
	}
	if e := concurrency.Valid(gs); e != want {
		t.Fatalf("Valid(%v) = %v, want %v", gs, e, want)
	}
}

var refs = []api.JobRef{job("a"), job("b"), {Run: "r/2", Job: "a"}, none, {Run: "r/1"}, {Job: "a"}}

// small returns all groups with a name, a running job and at most two waiting ones.
func small() []api.Group {
	waiting := [][]api.JobRef{nil, {}}
	for _, first := range refs {
		waiting = append(waiting, []api.JobRef{first})
		for _, second := range refs[:4] {
			waiting = append(waiting, []api.JobRef{first, second})
		}
	}
	var groups []api.Group
	for _, name := range []string{"g10", "g9", ""} {
		for _, running := range refs {
			for _, list := range waiting {
				groups = append(groups, api.Group{Name: name, Running: running, Waiting: list})
			}
		}
	}
	return groups
}

// P24.1 to P24.6: all small states of at most two groups, with all calls for those that are valid.
func TestSmallStates(t *testing.T) {
	states := [][]api.Group{nil, {}}
	groups := small()
	for _, g := range groups {
		states = append(states, []api.Group{g})
		for _, second := range groups {
			states = append(states, []api.Group{g, second})
		}
	}
	valid := 0
	for i, gs := range states {
		is := isValid(gs)
		expectValid(t, gs, is)
		if !is && i%29 > 0 {
			continue
		}
		if is {
			valid++
		}
		for _, ref := range append(refs, job("c")) {
			expect(t, gs, "g9", ref, i%3)
			if is {
				expectAll(t, gs, ref)
			}
		}
	}
	if valid < 100 {
		t.Errorf("%d valid states", valid)
	}
}

func expectAll(t *testing.T, gs []api.Group, ref api.JobRef) {
	t.Helper()
	for _, name := range []string{"", "g9", "g10", "g9/x", "g", "h", "G", "g9/"} {
		for _, policy := range []int{api.PolicyQueue, api.PolicyLatest, api.PolicyReplace, -1, 3, math.MinInt, math.MaxInt} {
			expect(t, gs, name, ref, policy)
		}
	}
}

// P24.1: names, runs and jobs are paths.
func TestPaths(t *testing.T) {
	longest := strings.Repeat("a/", (api.MaxPath-1)/2) + "bb"
	for _, s := range []string{"", "a", "a/b", "/", "a/", "/a", "a//b", "A", "a b", "ä", "\xff", strings.Repeat("a", api.MaxName), strings.Repeat("a", api.MaxName+1), longest, longest + "c"} {
		for _, g := range []api.Group{
			{Name: s, Running: job("a")},
			{Name: "g", Running: api.JobRef{Run: s, Job: "a"}},
			{Name: "g", Running: api.JobRef{Run: "a", Job: s}},
			{Name: "g", Waiting: []api.JobRef{job("a"), {Run: s, Job: "b"}}},
			{Name: "g", Waiting: []api.JobRef{job("a"), {Run: "b", Job: s}}},
		} {
			expectValid(t, []api.Group{g}, isPath(s))
			expect(t, []api.Group{g}, "g", job("b"), api.PolicyLatest)
		}
		expect(t, nil, s, job("a"), api.PolicyQueue)
		expect(t, nil, "g", api.JobRef{Run: s, Job: "a"}, api.PolicyQueue)
		expect(t, nil, "g", api.JobRef{Run: "a", Job: s}, api.PolicyQueue)
	}
	if len(longest) != api.MaxPath || !isPath(longest) {
		t.Error(len(longest))
	}
}

// full returns groups with n jobs in all, in which each of them has about the same number.
func full(n, groups int) []api.Group {
	gs := make([]api.Group, groups)
	for i := range gs {
		gs[i].Name = "g" + strconv.Itoa(i)
	}
	for i := range n {
		g := &gs[i%groups]
		if i/groups == 0 && i%2 == 0 {
			g.Running = job(strconv.Itoa(i))
		} else {
			g.Waiting = append(g.Waiting, job(strconv.Itoa(i)))
		}
	}
	return gs
}

// P24.1, P24.2: MaxPending jobs in all are permitted.
func TestLimit(t *testing.T) {
	for _, groups := range []int{1, 2, 1000, api.MaxPending} {
		for _, n := range []int{api.MaxPending - 1, api.MaxPending, api.MaxPending + 1} {
			if n < groups {
				continue
			}
			gs := full(n, groups)
			if e := concurrency.Valid(gs); (e == api.OK) != (n <= api.MaxPending) {
				t.Fatalf("%d jobs in %d groups: %v", n, groups, e)
			}
			for _, policy := range []int{api.PolicyQueue, api.PolicyLatest, api.PolicyReplace, 3} {
				expectEnter(t, gs, "g0", job("new"), policy)
				expectEnter(t, gs, "h", job("new"), policy)
				expectEnter(t, gs, "g0", job("7"), policy)
				expectEnter(t, gs, "g/", job("7"), policy)
			}
		}
	}
}

// expectEnter checks only the number of jobs and the error, so that it is fast.
func expectEnter(t *testing.T, gs []api.Group, name string, ref api.JobRef, policy int) {
	t.Helper()
	n := total(gs)
	want := api.OK
	switch {
	case n > api.MaxPending:
		want = api.ErrInvalid
	case name == "g/":
		want = api.ErrName
	case policy == 3:
		want = api.ErrRange
	case ref == job("7"):
		want = api.ErrExists
	case n == api.MaxPending:
		want = api.ErrFull
	}
	next, a, e := concurrency.Enter(gs, name, ref, policy)
	if e != want || e != api.OK && !same(next, gs) {
		t.Fatalf("Enter(%d jobs, %q, %v, %d) returns %v, want %v", n, name, ref, policy, e, want)
	}
	cancelled := len(a.Cancel)
	if policy == api.PolicyReplace && cancelled > 0 && a.Cancel[0] == gs[0].Running {
		cancelled--
	}
	if e == api.OK && total(next) != n+1-cancelled {
		t.Fatalf("%d jobs enter %d and cancel %d", total(next), n, cancelled)
	}
}

// P24.1: a job that occurs twice far apart.
func TestRepeatedJob(t *testing.T) {
	for range 200 {
		gs := full(2+chance.IntN(60), 1+chance.IntN(2))
		expectValid(t, gs, true)
		g := &gs[chance.IntN(len(gs))]
		other := members(gs[chance.IntN(len(gs))])
		g.Waiting = append(g.Waiting, other[chance.IntN(len(other))])
		expectValid(t, gs, false)
	}
}

// P24.2, P24.3, P24.4: each condition of an error holds together with those that are named after it.
func TestErrorOrder(t *testing.T) {
	valid := []api.Group{{Name: "g", Running: job("a"), Waiting: []api.JobRef{job("b")}}, {Name: "h", Waiting: []api.JobRef{job("c")}}}
	invalid := []api.Group{{Name: "g", Running: job("a")}, {Name: "h"}}
	for _, c := range []struct {
		gs     []api.Group
		name   string
		ref    api.JobRef
		policy int
		want   api.Errno
	}{
		{invalid, "", job("a"), -1, api.ErrInvalid},
		{valid, "", job("A"), -1, api.ErrInvalid},
		{valid, "", job("a"), -1, api.ErrName},
		{valid, "h", job("a"), -1, api.ErrRange},
		{valid, "h", job("a"), api.PolicyQueue, api.ErrExists},
		{valid, "g", job("c"), api.PolicyReplace, api.ErrExists},
	} {
		next, a, e := concurrency.Enter(c.gs, c.name, c.ref, c.policy)
		if e != c.want || !same(next, c.gs) || !reflect.DeepEqual(a, api.Admission{}) {
			t.Errorf("Enter(%v, %q, %v, %d) = %v, %v, %v", c.gs, c.name, c.ref, c.policy, next, a, e)
		}
	}
	for _, c := range []struct {
		gs   []api.Group
		name string
		ref  api.JobRef
		want api.Errno
	}{
		{invalid, "x", job("a"), api.ErrInvalid},
		{valid, "x", job("a"), api.ErrNotFound},
		{valid, "", none, api.ErrNotFound},
		{valid, "g", job("a"), api.ErrState},
		{valid, "g", none, api.ErrState},
		{valid, "h", job("b"), api.ErrOrder},
		{valid, "h", none, api.ErrOrder},
	} {
		if next, e := concurrency.Start(c.gs, c.name, c.ref); e != c.want || !same(next, c.gs) {
			t.Errorf("Start(%v, %q, %v) = %v, %v", c.gs, c.name, c.ref, next, e)
		}
	}
	for _, ref := range []api.JobRef{job("a"), job("b"), none} {
		if next := concurrency.Leave(invalid, ref); !same(next, invalid) {
			t.Errorf("Leave(%v, %v) = %v", invalid, ref, next)
		}
	}
}

// P24.5
func TestMay(t *testing.T) {
	valid := []api.Group{{Name: "g", Running: job("a"), Waiting: []api.JobRef{job("b")}}, {Name: "h", Waiting: []api.JobRef{job("c"), job("d")}}}
	invalid := []api.Group{valid[1], valid[0]}
	for _, c := range []struct {
		gs   []api.Group
		name string
		ref  api.JobRef
		want bool
	}{
		{valid, "g", job("a"), true},
		{valid, "g", job("b"), false},
		{valid, "h", job("c"), true},
		{valid, "h", job("d"), false},
		{valid, "h", none, false},
		{valid, "g", none, false},
		{valid, "h", job("a"), false},
		{valid, "x", job("a"), false},
		{valid, "", job("a"), true},
		{valid, "", none, true},
		{invalid, "g", job("a"), false},
		{invalid, "h", job("c"), false},
		{invalid, "", job("x"), true},
		{nil, "", none, true},
		{nil, "g", none, false},
	} {
		if got := concurrency.May(c.gs, c.name, c.ref); got != c.want {
			t.Errorf("May(%v, %q, %v) = %v", c.gs, c.name, c.ref, got)
		}
	}
}

var chance = rand.New(rand.NewPCG(24, 1))

// P24.2 to P24.6: a long history, in which the jobs of each group begin to run in the order of their arrival.
func TestHistory(t *testing.T) {
	for range 100 {
		var gs []api.Group
		begun := map[string]int{} // by group: the job that began last; jobs arrive by their numbers
		for n := range 80 {
			name := "g" + strconv.Itoa(chance.IntN(4))
			ref := job(strconv.Itoa(n))
			policy := []int{api.PolicyQueue, api.PolicyQueue, api.PolicyQueue, api.PolicyLatest, api.PolicyReplace}[chance.IntN(5)]
			expect(t, gs, name, ref, policy)
			before := runningJobs(gs)
			gs, _, _ = concurrency.Enter(gs, name, ref, policy)
			for range chance.IntN(3) {
				ref := job(strconv.Itoa(chance.IntN(n + 1)))
				expect(t, gs, name, ref, policy)
				gs = concurrency.Leave(gs, ref)
			}
			for _, g := range gs {
				ref := members(g)[chance.IntN(len(members(g)))]
				expect(t, gs, g.Name, ref, policy)
				gs, _ = concurrency.Start(gs, g.Name, ref)
			}
			for name, now := range runningJobs(gs) {
				if was := before[name]; now == was {
					continue
				}
				number, _ := strconv.Atoi(now.Job)
				if number < begun[name] {
					t.Fatalf("%d begins after %d", number, begun[name])
				}
				begun[name] = number
			}
		}
	}
}

// runningJobs returns the running job of each group that has one.
func runningJobs(gs []api.Group) map[string]api.JobRef {
	running := map[string]api.JobRef{}
	for _, g := range gs {
		if g.Running != none {
			running[g.Name] = g.Running
		}
	}
	return running
}

// P24.2, P24.3, P24.5: the chapter's examples.
func TestExamples(t *testing.T) {
	enter := func(gs []api.Group, ref api.JobRef, policy int) ([]api.Group, api.Admission) {
		next, a, e := concurrency.Enter(gs, "g", ref, policy)
		if e != api.OK {
			t.Fatal(e)
		}
		return next, a
	}
	one, a := enter(nil, job("1"), api.PolicyQueue)
	two, b := enter(one, job("2"), api.PolicyQueue)
	three, c := enter(two, job("3"), api.PolicyQueue)
	if !a.Run || b.Run || c.Run || len(a.Cancel)+len(b.Cancel)+len(c.Cancel) > 0 {
		t.Error(a, b, c)
	}
	left := concurrency.Leave(three, job("1"))
	if concurrency.May(left, "g", job("1")) || !concurrency.May(left, "g", job("2")) || concurrency.May(left, "g", job("3")) {
		t.Error(left)
	}
	_, a = enter(two, job("3"), api.PolicyLatest)
	if !slices.Equal(a.Cancel, []api.JobRef{job("2")}) {
		t.Error(a)
	}
	replaced, a := enter(one, job("2"), api.PolicyReplace)
	if !slices.Equal(a.Cancel, []api.JobRef{job("1")}) || !concurrency.May(replaced, "g", job("1")) || concurrency.May(replaced, "g", job("2")) {
		t.Error(replaced, a)
	}
	if left = concurrency.Leave(replaced, job("1")); !concurrency.May(left, "g", job("2")) {
		t.Error(left)
	}
}

// deepCopy copies groups with all of their spare capacity.
func deepCopy(gs []api.Group) []api.Group {
	whole := slices.Clone(gs[:cap(gs)])
	for i, g := range whole {
		whole[i].Waiting = slices.Clone(g.Waiting[:cap(g.Waiting)])
	}
	return whole
}

// R5: arguments, with their spare capacity, remain as they are, and results share no memory with them or with each other.
func TestMemory(t *testing.T) {
	long := []api.JobRef{job("b"), job("c"), job("spare"), job("spare")}
	other := []api.JobRef{job("e"), job("f"), job("spare")}
	spare := api.Group{Name: "spare", Running: job("spare")}
	gs := []api.Group{{Name: "g", Running: job("a"), Waiting: long[:2]}, {Name: "i", Waiting: other[:2]}, spare, spare}[:2]
	whole := deepCopy(gs)
	var results [][]api.Group
	var cancels [][]api.JobRef
	for _, name := range []string{"f", "g", "h", "i", "j"} {
		for policy := range 3 {
			next, a, e := concurrency.Enter(gs, name, job("new"), policy)
			if e != api.OK {
				t.Fatal(e)
			}
			results, cancels = append(results, next), append(cancels, a.Cancel)
		}
	}
	for _, s := range []string{"a", "b", "c", "e", "f", "x"} {
		results = append(results, concurrency.Leave(gs, job(s)))
	}
	next, e := concurrency.Start(gs, "i", job("e"))
	if e != api.OK {
		t.Fatal(e)
	}
	results = append(results, next)
	concurrency.May(gs, "i", job("e"))
	concurrency.Valid(gs)
	if !reflect.DeepEqual(deepCopy(gs), whole) {
		t.Fatal(gs)
	}
	for i, cancel := range cancels {
		before := deepCopy(results[i])
		clear(cancel[:cap(cancel)])
		if !reflect.DeepEqual(deepCopy(results[i]), before) {
			t.Fatal(results[i])
		}
	}
	for _, result := range results {
		expectApart(t, result)
	}
	if !reflect.DeepEqual(deepCopy(gs), whole) {
		t.Error(gs)
	}
}

// expectApart overwrites the lists of a result one by one, and checks that the others remain.
func expectApart(t *testing.T, gs []api.Group) {
	t.Helper()
	for i, g := range gs {
		rest := slices.Concat(gs[:i], gs[i+1:])
		before := deepCopy(rest)
		clear(g.Waiting[:cap(g.Waiting)])
		if !reflect.DeepEqual(deepCopy(rest), before) {
			t.Fatalf("the group %q shares memory", g.Name)
		}
	}
	clear(gs[:cap(gs)])
}
