package queue_test

import (
	"math"
	"math/big"
	"math/rand/v2"
	"reflect"
	"slices"
	"strconv"
	"testing"

	"pipeline/api"
	"pipeline/ident"
	"pipeline/queue"
)

var chance = rand.New(rand.NewPCG(25, 1))

// edges are the edges of all ranges.
var edges = []int{math.MinInt, -1, 0, 1, 2, 3, 8, 9, 10, 59999, 60000, 60001, 119999, 120000, 5400000, 11399999, 11400000, 11400001, api.MaxCost, api.MaxCost + 1, api.MaxTime - 1, api.MaxTime, api.MaxTime + 1, math.MaxInt - 1, math.MaxInt}

// job returns a job that Push accepts.
func job(run, name string) api.Pending {
	return api.Pending{Ref: api.JobRef{Run: run, Job: name}, Project: "p", Priority: 5, Since: 1000, Cost: 2, Labels: []string{"linux", "x"}, Trust: api.TrustBranch, Group: "g", Policy: api.PolicyLatest}
}

// ranked is the chapter's definition of the rank.
func ranked(p api.Pending, now int) int {
	waited := new(big.Int).Sub(big.NewInt(int64(now)), big.NewInt(int64(p.Since)))
	if waited.Sign() < 0 {
		waited.SetInt64(0)
	}
	rank := waited.Quo(waited, big.NewInt(60000))
	rank.Add(rank, big.NewInt(int64(10*max(0, min(9, p.Priority)))))
	if rank.Cmp(big.NewInt(190)) > 0 {
		return 190
	}
	return int(rank.Int64())
}

// P25.3: numbers at the edges of all ranges, and by chance.
func TestRank(t *testing.T) {
	expect := func(priority, since, now int) {
		p := job("r", "a")
		p.Priority, p.Since = priority, since
		if got, want := queue.Rank(p, now), ranked(p, now); got != want {
			t.Fatalf("Rank(%d, %d, %d) = %d, want %d", priority, since, now, got, want)
		}
	}
	for _, priority := range edges {
		for _, since := range edges {
			for _, now := range edges {
				expect(priority, since, now)
			}
		}
	}
	for range 100000 {
		since := chance.IntN(api.MaxTime)
		expect(chance.IntN(14)-2, since, since+chance.IntN(12500000)-100000)
		expect(chance.IntN(14)-2, int(chance.Uint64()), int(chance.Uint64()))
	}
}

// P25.3, P25.4: the chapter's examples.
func TestExamples(t *testing.T) {
	two, nine, zero := job("r", "two"), job("r", "nine"), job("r", "zero")
	two.Priority, two.Since = 2, 0
	if a, b := queue.Rank(two, 119999), queue.Rank(two, 120000); a != 21 || b != 22 {
		t.Error(a, b)
	}
	const later = 90 * 60000
	nine.Priority, nine.Since = 9, later
	zero.Priority, zero.Since = 0, 0
	if a, b := queue.Rank(nine, later), queue.Rank(zero, later); a != 90 || b != 90 {
		t.Error(a, b)
	}
	if l := queue.Order([]api.Pending{nine, zero}, later); l[0].Ref.Job != "zero" {
		t.Error(l)
	}
	if l := queue.Order([]api.Pending{zero, nine}, later-1); l[0].Ref.Job != "nine" {
		t.Error(l)
	}
}

// pushed is what P25.1 says about Push.
func pushed(q []api.Pending, p api.Pending) ([]api.Pending, api.Errno) {
	switch {
	case p.Ref.Run == "", p.Ref.Job == "", p.Project == "":
		return q, api.ErrInvalid
	case p.Priority < 0, p.Priority > 9, p.Since < 0, p.Since > api.MaxTime, p.Cost < 1, p.Cost > api.MaxCost:
		return q, api.ErrRange
	case !slices.Contains([]int{api.TrustFork, api.TrustBranch, api.TrustProtected}, p.Trust):
		return q, api.ErrRange
	case !slices.Contains([]int{api.PolicyQueue, api.PolicyLatest, api.PolicyReplace}, p.Policy):
		return q, api.ErrRange
	}
	for _, other := range q {
		if other.Ref == p.Ref {
			return q, api.ErrExists
		}
	}
	if len(q) >= api.MaxPending {
		return q, api.ErrFull
	}
	return append(slices.Clone(q), p), api.OK
}

func expectPush(t *testing.T, q []api.Pending, p api.Pending) api.Errno {
	t.Helper()
	want, wantErr := pushed(q, p)
	got, err := queue.Push(q, p)
	if err != wantErr || !reflect.DeepEqual(got, want) {
		t.Fatalf("Push of %v to %d jobs returns %d jobs and %v, want %d and %v", p, len(q), len(got), err, len(want), wantErr)
	}
	return err
}

// full returns MaxPending jobs.
func full() []api.Pending {
	q := make([]api.Pending, api.MaxPending)
	for i := range q {
		q[i] = job("r", strconv.Itoa(i))
	}
	return q
}

// spoiled returns jobs with the reference of p that Push does not accept, and the errors, in the order in which they are named.
func spoiled(p api.Pending) map[api.Errno][]api.Pending {
	invalid, outside := []api.Pending{p, p, p}, []api.Pending{}
	invalid[0].Ref.Run, invalid[1].Ref.Job, invalid[2].Project = "", "", ""
	for _, n := range edges {
		changed := []api.Pending{p, p, p, p, p}
		changed[0].Priority, changed[1].Since, changed[2].Cost, changed[3].Trust, changed[4].Policy = n, n, n, n, n
		for _, c := range changed {
			if _, e := pushed(nil, c); e != api.OK {
				outside = append(outside, c)
			}
		}
	}
	return map[api.Errno][]api.Pending{api.ErrInvalid: invalid, api.ErrRange: outside}
}

// P25.1: each number at the edges of all ranges, and lists of all lengths around the limit.
func TestPush(t *testing.T) {
	q := full()
	for _, n := range edges {
		changed := []api.Pending{job("r", "a"), job("r", "a"), job("r", "a"), job("r", "a"), job("r", "a")}
		changed[0].Priority, changed[1].Since, changed[2].Cost, changed[3].Trust, changed[4].Policy = n, n, n, n, n
		for _, p := range changed {
			expectPush(t, nil, p)
			expectPush(t, q[:3], p)
			expectPush(t, q, p)
		}
	}
	for _, p := range []api.Pending{job("", "a"), job("r", ""), job("r", "0"), job("r", "2"), job("r", "4095"), job("s", "2"), job("2", "r"), job("//", "\xff")} {
		for _, length := range []int{0, 1, 2, 3, api.MaxPending - 1, api.MaxPending} {
			expectPush(t, q[:length], p)
		}
		p.Project = ""
		expectPush(t, q, p)
	}
	expectPush(t, append(full(), job("r", "0")), job("r", "1"))
	expectPush(t, append(full(), job("r", "0")), job("r", "x"))
}

// P25.1: labels and the group are not examined.
func TestPushOfAnyLabels(t *testing.T) {
	p := job("r", "a")
	p.Labels, p.Group, p.Project = []string{"", "!", "x", "x", "\xff"}, "//", "No project"
	if e := expectPush(t, nil, p); e != api.OK {
		t.Error(e)
	}
}

// P25.1: if several errors apply, the first one that is named is returned.
func TestPushErrors(t *testing.T) {
	q := full()
	for _, p := range []api.Pending{job("r", "7"), job("r", "new")} {
		for want, list := range spoiled(p) {
			for _, other := range list {
				if e := expectPush(t, q, other); e != want {
					t.Fatalf("Push of %v returns %v", other, e)
				}
				other.Project = ""
				if e := expectPush(t, q, other); e != api.ErrInvalid {
					t.Fatalf("Push of %v returns %v", other, e)
				}
			}
		}
	}
	if e := expectPush(t, q, job("r", "7")); e != api.ErrExists {
		t.Error(e)
	}
	if e := expectPush(t, q, job("r", "new")); e != api.ErrFull {
		t.Error(e)
	}
}

// P25.2
func TestRemove(t *testing.T) {
	names := []string{"a", "b", "", "a", "c"}
	var q []api.Pending
	for i, name := range names {
		p := job("r", name)
		p.Since = i
		q = append(q, p)
	}
	for length := range len(q) + 1 {
		for _, ref := range []api.JobRef{{Run: "r", Job: "a"}, {Run: "r", Job: "b"}, {Run: "r", Job: "c"}, {Run: "r"}, {Run: "s", Job: "a"}, {Run: "a", Job: "r"}, {}} {
			at := slices.Index(names[:length], ref.Job)
			is := at >= 0 && ref.Run == "r"
			want := q[:length]
			if is {
				want = slices.Concat(q[:at], q[at+1:length])
			}
			got, found := queue.Remove(q[:length], ref)
			if found != is || len(got) != len(want) || len(got) > 0 && !reflect.DeepEqual(got, want) {
				t.Errorf("Remove(%v, %v) = %v, %v, want %v, %v", q[:length], ref, got, found, want, is)
			}
		}
	}
}

// some returns jobs of which many agree in some of what Order looks at.
func some(n int) []api.Pending {
	q := make([]api.Pending, n)
	for i := range q {
		runs := []string{"r9", "r10", "r", ""}
		names := []string{"a.2", "a.10", "b"}
		p := job(runs[chance.IntN(4)], names[chance.IntN(3)])
		p.Priority = []int{-3, 0, 1, 2, 9, 12}[chance.IntN(6)]
		p.Since = []int{0, 1, 60000, 120000, 600000, -1, math.MinInt, math.MaxInt}[chance.IntN(8)]
		p.Cost = i
		q[i] = p
	}
	return q
}

// inOrder is what P25.4 says about two jobs, a being before b in the queue.
func inOrder(a, b api.Pending, now int) bool {
	if x, y := ranked(a, now), ranked(b, now); x != y {
		return x > y
	}
	if a.Since != b.Since {
		return a.Since < b.Since
	}
	if c := ident.Compare(a.Ref.Run, b.Ref.Run); c != 0 {
		return c < 0
	}
	if c := ident.Compare(a.Ref.Job, b.Ref.Job); c != 0 {
		return c < 0
	}
	return a.Cost < b.Cost // which is the index in the queue
}

// P25.4: any lists; the cost of each job is its index.
func TestOrder(t *testing.T) {
	for range 3000 {
		q := some(chance.IntN(40))
		for _, now := range []int{0, 60000, 700000, api.MaxTime, math.MinInt, math.MaxInt} {
			l := queue.Order(q, now)
			if len(l) != len(q) {
				t.Fatal(l)
			}
			for i, p := range l {
				if !reflect.DeepEqual(p, q[p.Cost]) || i > 0 && !inOrder(l[i-1], p, now) {
					t.Fatalf("Order(%v, %d) = %v", q, now, l)
				}
			}
		}
	}
	if l := queue.Order(nil, 0); len(l) != 0 {
		t.Error(l)
	}
}

// P25.4: each criterion alone.
func TestCriteria(t *testing.T) {
	base := job("r", "a.2")
	rank, since, run, name := base, base, base, base
	rank.Priority = 6
	rank.Since++
	since.Since--
	run.Ref = api.JobRef{Run: "r.1", Job: "a.1"}
	name.Ref.Job = "a.10"
	base.Labels = nil
	// The rank counts before all others, then the age, then the run.
	want := []api.Pending{rank, since, base, name, run}
	for range 200 {
		q := slices.Clone(want)
		chance.Shuffle(len(q), func(i, j int) { q[i], q[j] = q[j], q[i] })
		if l := queue.Order(q, 2000); !reflect.DeepEqual(l, want) {
			t.Fatal(l)
		}
	}
}

// P25.5
func TestProjects(t *testing.T) {
	for range 2000 {
		q := some(chance.IntN(8))
		want := map[string]bool{}
		for i := range q {
			q[i].Project = []string{"a.9", "a.10", "", "b", "B", "a.09"}[chance.IntN(6)]
			want[q[i].Project] = true
		}
		got := queue.Projects(q)
		for i, project := range got {
			if !want[project] || i > 0 && ident.Compare(got[i-1], project) >= 0 {
				t.Fatalf("Projects(%v) = %q", q, got)
			}
		}
		if len(got) != len(want) {
			t.Fatalf("Projects(%v) = %q", q, got)
		}
	}
}

// P25.6
func TestAge(t *testing.T) {
	for range 20000 {
		old, young := some(1)[0], some(1)[0]
		times := []int{chance.IntN(api.MaxTime), chance.IntN(20000000), int(chance.Uint64())}
		for _, now := range times {
			for _, later := range []int{now, now + 1, now + 60000, math.MaxInt} {
				if later >= now && queue.Rank(old, later) < queue.Rank(old, now) {
					t.Fatalf("the rank of %v decreases between %d and %d", old, now, later)
				}
			}
		}
		const span = 190 * 60000
		old.Since = chance.IntN(1000000)
		young.Since = old.Since + 1 + chance.IntN(2*span)
		for _, now := range []int{old.Since + span, old.Since + span + chance.IntN(span), api.MaxTime} {
			if l := queue.Order([]api.Pending{young, old}, now); !reflect.DeepEqual(l[0], old) {
				t.Fatalf("Order at %d: %v", now, l)
			}
		}
	}
}

// P25.7
func TestAnyOrder(t *testing.T) {
	for range 300 {
		q := some(30)
		for i := range q {
			q[i].Ref.Job += "/" + strconv.Itoa(i)
		}
		now := chance.IntN(1000000)
		want := queue.Order(q, now)
		chance.Shuffle(len(q), func(i, j int) { q[i], q[j] = q[j], q[i] })
		if got := queue.Order(q, now); !reflect.DeepEqual(got, want) {
			t.Fatalf("Order = %v, want %v", got, want)
		}
	}
}

// R5: arguments, with their spare capacity, remain as they are, and results do not share their memory.
func TestMemory(t *testing.T) {
	build := func() []api.Pending {
		q := some(6)
		for i := range q {
			q[i] = job("r", strconv.Itoa(i))
		}
		return q
	}
	q, added := build(), job("r", "new")
	var results [][]api.Pending
	for i := range 5 {
		result, e := queue.Push(q[:i], added)
		removed, _ := queue.Remove(q[:5], q[i].Ref)
		results = append(results, result, removed, queue.Order(q[:i], 5))
		if e != api.OK {
			t.Fatal(e)
		}
	}
	queue.Projects(q)
	for i, result := range results {
		for _, p := range result {
			clear(p.Labels[:cap(p.Labels)])
		}
		clear(result[:cap(result)])
		if !reflect.DeepEqual(q, build()) || !reflect.DeepEqual(added, job("r", "new")) {
			t.Fatal(i, q, added)
		}
	}
}

// P25.4, P25.5: a queue beyond the limit.
func TestLongQueue(t *testing.T) {
	const now = 700000
	q := some(3 * api.MaxPending)
	l := queue.Order(q, now)
	for i := 1; i < len(l); i++ {
		if !inOrder(l[i-1], l[i], now) {
			t.Fatal(l[i-1], l[i])
		}
	}
	if p := queue.Projects(q); len(l) != len(q) || !slices.Equal(p, []string{"p"}) {
		t.Error(len(l), p)
	}
}
