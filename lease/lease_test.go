package lease_test

import (
	"cmp"
	"math"
	"math/big"
	"math/rand/v2"
	"slices"
	"strconv"
	"testing"

	"pipeline/api"
	"pipeline/lease"
)

var chance = rand.New(rand.NewPCG(27, 1))

// edges are the edges of all ranges.
var edges = []int{
	math.MinInt, math.MinInt + 1, -1, 0, 1, 2, 3, api.MaxAttempts, api.MaxAttempts + 1, api.LeaseTime - 1, api.LeaseTime, api.LeaseTime + 1,
	api.MaxTime - 1, api.MaxTime, api.MaxTime + 1, api.MaxTime + api.LeaseTime - 1, api.MaxTime + api.LeaseTime, api.MaxTime + api.LeaseTime + 1,
	math.MaxInt - api.LeaseTime, math.MaxInt - 1, math.MaxInt,
}

func job(name string) api.JobRef { return api.JobRef{Run: "r", Job: name} }

// given returns a valid lease with a token.
func given(token int, name, worker string, at int) api.Lease {
	return api.Lease{Token: token, Ref: job(name), Attempt: 1, Worker: worker, Granted: at, Expires: at + api.LeaseTime}
}

func within(n, least, most int) bool { return n >= least && n <= most }

// isValid is the chapter's definition of valid leases.
func isValid(l api.Leases) bool {
	if !within(l.Next, 1, api.MaxTime) {
		return false
	}
	for i, x := range l.List {
		for _, other := range l.List[:i] {
			if other.Token >= x.Token || other.Ref == x.Ref {
				return false
			}
		}
		longest := new(big.Int).Add(big.NewInt(int64(x.Granted)), big.NewInt(api.LeaseTime))
		switch {
		case !within(x.Token, 1, l.Next-1), x.Ref.Run == "", x.Ref.Job == "", !within(x.Attempt, 1, api.MaxAttempts), x.Worker == "",
			!within(x.Granted, 0, api.MaxTime), big.NewInt(int64(x.Expires)).Cmp(longest) < 0, x.Expires > api.MaxTime+api.LeaseTime:
			return false
		}
	}
	return true
}

// same reports whether leases are equal. Empty lists may be nil or not.
func same(a, b api.Leases) bool { return a.Next == b.Next && slices.Equal(a.List, b.List) }

func expectValid(t *testing.T, l api.Leases, want bool) {
	t.Helper()
	if is := isValid(l); is != want {
		t.Fatalf("the definition gives %v for %v", is, l)
	}
	if e := lease.Valid(l); (e == api.OK) != want || e != api.OK && e != api.ErrInvalid {
		t.Fatalf("Valid(%v) = %v, want %v", l, e, want)
	}
}

// grant are the arguments of Grant.
type grant struct {
	ref     api.JobRef
	attempt int
	worker  string
	now     int
}

// granted is what P27.2 says.
func granted(l api.Leases, g grant) (api.Leases, api.Lease, api.Errno) {
	switch {
	case !isValid(l), g.ref.Run == "", g.ref.Job == "", g.worker == "":
		return l, api.Lease{}, api.ErrInvalid
	case !within(g.attempt, 1, api.MaxAttempts), !within(g.now, 0, api.MaxTime):
		return l, api.Lease{}, api.ErrRange
	}
	for _, x := range l.List {
		if x.Ref == g.ref {
			return l, api.Lease{}, api.ErrExists
		}
	}
	if l.Next == api.MaxTime {
		return l, api.Lease{}, api.ErrLimit
	}
	x := api.Lease{Token: l.Next, Ref: g.ref, Attempt: g.attempt, Worker: g.worker, Granted: g.now, Expires: g.now + api.LeaseTime}
	return api.Leases{Next: l.Next + 1, List: slices.Concat(l.List, []api.Lease{x})}, x, api.OK
}

func expectGrant(t *testing.T, l api.Leases, g grant) (api.Leases, api.Errno) {
	t.Helper()
	next, x, e := lease.Grant(l, g.ref, g.attempt, g.worker, g.now)
	wantNext, want, wantErr := granted(l, g)
	if !same(next, wantNext) || x != want || e != wantErr {
		t.Fatalf("Grant(%v, %v) = %v, %v, %v, want %v, %v, %v", l, g, next, x, e, wantNext, want, wantErr)
	}
	return next, e
}

// renewed is what P27.3 says.
func renewed(l api.Leases, worker string, now int) api.Leases {
	if !isValid(l) || !within(now, 0, api.MaxTime) {
		return l
	}
	var list []api.Lease
	for _, x := range l.List {
		if x.Worker == worker && now < x.Expires && x.Expires < now+api.LeaseTime {
			x.Expires = now + api.LeaseTime
		}
		list = append(list, x)
	}
	return api.Leases{Next: l.Next, List: list}
}

// released is what P27.6 says.
func released(l api.Leases, token int) (api.Leases, api.Errno) {
	if !isValid(l) {
		return l, api.ErrInvalid
	}
	var list []api.Lease
	for _, x := range l.List {
		if x.Token != token {
			list = append(list, x)
		}
	}
	if len(list) == len(l.List) {
		return l, api.ErrStale
	}
	return api.Leases{Next: l.Next, List: list}, api.OK
}

// expectAnswers compares Find, Holds and Expired with what P27.4, P27.5 and P27.7 say.
func expectAnswers(t *testing.T, l api.Leases, token int, worker string, now int) {
	t.Helper()
	var want api.Lease
	var past []api.Lease
	exists := false
	for _, x := range l.List {
		if x.Token == token && !exists {
			want, exists = x, true
		}
		if x.Expires <= now {
			past = append(past, x)
		}
	}
	if x, found := lease.Find(l, token); x != want || found != exists {
		t.Fatalf("Find(%v, %d) = %v, %v, want %v, %v", l, token, x, found, want, exists)
	}
	code := api.OK
	if !exists || want.Worker != worker {
		code = api.ErrStale
	} else if want.Expires <= now {
		code = api.ErrExpired
	}
	if e := lease.Holds(l, token, worker, now); e != code {
		t.Fatalf("Holds(%v, %d, %q, %d) = %v, want %v", l, token, worker, now, e, code)
	}
	if list := lease.Expired(l, now); !slices.Equal(list, past) {
		t.Fatalf("Expired(%v, %d) = %v, want %v", l, now, list, past)
	}
}

// expect compares all functions with what the promises say.
func expect(t *testing.T, l api.Leases, token int, worker string, now int) {
	t.Helper()
	expectValid(t, l, isValid(l))
	expectAnswers(t, l, token, worker, now)
	if got, want := lease.Renew(l, worker, now), renewed(l, worker, now); !same(got, want) {
		t.Fatalf("Renew(%v, %q, %d) = %v, want %v", l, worker, now, got, want)
	}
	got, e := lease.Release(l, token)
	if want, wantErr := released(l, token); !same(got, want) || e != wantErr {
		t.Fatalf("Release(%v, %d) = %v, %v, want %v, %v", l, token, got, e, want, wantErr)
	}
	for _, name := range []string{"a", "new", ""} {
		expectGrant(t, l, grant{job(name), 1 + token%2, worker, now})
	}
}

// P27.1
func TestNew(t *testing.T) {
	l := lease.New()
	if l.Next != 1 || len(l.List) != 0 {
		t.Error(l)
	}
	expectValid(t, l, true)
	expectValid(t, api.Leases{}, false)
	expectValid(t, api.Leases{Next: 1, List: []api.Lease{}}, true)
}

// The chapter's examples.
func TestExamples(t *testing.T) {
	l, x, e := lease.Grant(lease.New(), job("a"), 1, "w", 0)
	if e != api.OK || x != given(1, "a", "w", 0) || x.Expires != 30000 {
		t.Fatal(x, e)
	}
	if a, b := lease.Holds(l, 1, "w", 29999), lease.Holds(l, 1, "w", 30000); a != api.OK || b != api.ErrExpired {
		t.Error(a, b)
	}
	l = lease.Renew(l, "w", 20000)
	if x, found := lease.Find(l, 1); !found || x.Expires != 50000 {
		t.Error(x, found)
	}
	if l := lease.Renew(l, "w", 50000); lease.Holds(l, 1, "w", 50000) != api.ErrExpired {
		t.Error(l)
	}
	if l, e = lease.Release(l, 1); e != api.OK {
		t.Fatal(e)
	}
	if l, x, e = lease.Grant(l, job("a"), 2, "w", 50000); e != api.OK || x.Token != 2 || lease.Holds(l, 1, "w", 50000) != api.ErrStale {
		t.Error(x, e)
	}
}

// pair returns valid leases.
func pair() api.Leases {
	return api.Leases{Next: 9, List: []api.Lease{given(3, "a", "w", 5), given(7, "b", "v", 0)}}
}

// variants returns leases in which one of the numbers or names of a lease, or Next, is another one.
func variants(base api.Leases) []api.Leases {
	var all []api.Leases
	add := func(change func(l *api.Leases)) {
		l := api.Leases{Next: base.Next, List: slices.Clone(base.List)}
		change(&l)
		all = append(all, l)
	}
	for _, n := range append(edges, 4, 5, 6, 7, 8, 9, 10) {
		add(func(l *api.Leases) { l.Next = n })
		for i := range base.List {
			add(func(l *api.Leases) { l.List[i].Token = n })
			add(func(l *api.Leases) { l.List[i].Attempt = n })
			add(func(l *api.Leases) { l.List[i].Granted = n })
			add(func(l *api.Leases) { l.List[i].Expires = n })
		}
	}
	for _, name := range []string{"", "r", "s", "a", "b", "A/ \xff"} {
		for i := range base.List {
			add(func(l *api.Leases) { l.List[i].Ref.Run = name })
			add(func(l *api.Leases) { l.List[i].Ref.Job = name })
			add(func(l *api.Leases) { l.List[i].Worker = name })
		}
	}
	return all
}

// P27.1: each condition at the edges of its range, for the first lease and for the last one.
func TestValid(t *testing.T) {
	expectValid(t, pair(), true)
	bad := 0
	for _, l := range variants(pair()) {
		if expectValid(t, l, isValid(l)); !isValid(l) {
			bad++
		}
	}
	if bad < 100 {
		t.Errorf("%d variants are not valid", bad)
	}
	for _, granted := range edges {
		for _, expires := range append(edges, api.LeaseTime+2, api.LeaseTime+3) {
			l := pair()
			l.List[1].Granted, l.List[1].Expires = granted, expires
			expectValid(t, l, isValid(l))
		}
	}
	last := given(api.MaxTime-1, "a", "w", api.MaxTime)
	expectValid(t, api.Leases{Next: api.MaxTime, List: []api.Lease{last}}, true)
	expectValid(t, api.Leases{Next: api.MaxTime - 1, List: []api.Lease{last}}, false)
	last.Token = 1
	expectValid(t, api.Leases{Next: 1, List: []api.Lease{last}}, false)
}

// P27.1: jobs with the same name in different runs are different jobs, and other fields may be equal.
func TestDistinct(t *testing.T) {
	l := api.Leases{Next: 4, List: []api.Lease{given(1, "a", "w", 0), given(2, "a", "w", 0), given(3, "r", "w", 0)}}
	expectValid(t, l, false)
	l.List[1].Ref.Run = "s"
	l.List[2].Ref.Run = "a"
	expectValid(t, l, true)
	l.List[2].Ref = l.List[0].Ref
	expectValid(t, l, false)
}

// P27.2: each number at the edges of all ranges, and each name.
func TestGrant(t *testing.T) {
	for _, l := range []api.Leases{lease.New(), pair(), {}, {Next: api.MaxTime - 1}, {Next: api.MaxTime}} {
		for _, n := range edges {
			for _, m := range []int{-1, 0, 1, 16, 17, api.MaxTime, api.MaxTime + 1} {
				for _, name := range []string{"a", "b", "c", ""} {
					for _, worker := range []string{"w", "x", ""} {
						expectGrant(t, l, grant{job(name), n, worker, m})
						expectGrant(t, l, grant{job(name), m, worker, n})
						expectGrant(t, l, grant{api.JobRef{Run: name, Job: "r"}, m, worker, n})
					}
				}
			}
		}
	}
	for _, l := range variants(pair()) {
		expectGrant(t, l, grant{job("c"), 1, "w", 0})
	}
}

// P27.2: each condition of an error holds together with those that are named after it.
func TestGrantErrors(t *testing.T) {
	invalid, last := pair(), pair()
	invalid.List[0].Token = 7
	last.Next = api.MaxTime
	for _, c := range []struct {
		l    api.Leases
		g    grant
		want api.Errno
	}{
		{invalid, grant{job("c"), 0, "w", -1}, api.ErrInvalid},
		{last, grant{job(""), 0, "w", -1}, api.ErrInvalid},
		{last, grant{api.JobRef{Job: "a"}, 0, "w", -1}, api.ErrInvalid},
		{last, grant{job("a"), 0, "", -1}, api.ErrInvalid},
		{last, grant{job("a"), 0, "w", 0}, api.ErrRange},
		{last, grant{job("a"), 1, "w", -1}, api.ErrRange},
		{last, grant{job("a"), 1, "w", 0}, api.ErrExists},
		{last, grant{job("c"), 1, "w", 0}, api.ErrLimit},
	} {
		if _, e := expectGrant(t, c.l, c.g); e != c.want {
			t.Errorf("Grant(%v, %v) returns %v, want %v", c.l, c.g, e, c.want)
		}
	}
	// A lease that has expired still counts.
	if _, e := expectGrant(t, pair(), grant{job("b"), 2, "x", api.MaxTime}); e != api.ErrExists {
		t.Error(e)
	}
}

// P27.2: the last token, and the last time.
func TestLast(t *testing.T) {
	l, e := expectGrant(t, api.Leases{Next: api.MaxTime - 1}, grant{job("a"), api.MaxAttempts, "w", api.MaxTime})
	if e != api.OK || l.Next != api.MaxTime || l.List[0].Token != api.MaxTime-1 {
		t.Fatal(l, e)
	}
	expectValid(t, l, true)
	expect(t, l, api.MaxTime-1, "w", api.MaxTime)
	if _, e := expectGrant(t, l, grant{job("b"), 1, "w", api.MaxTime}); e != api.ErrLimit {
		t.Error(e)
	}
	if l, e = lease.Release(l, api.MaxTime-1); e != api.OK || len(l.List) != 0 || l.Next != api.MaxTime {
		t.Error(l, e)
	}
}

// P27.3
func TestRenew(t *testing.T) {
	l := api.Leases{Next: 6, List: []api.Lease{given(1, "a", "w", 0), given(2, "b", "v", 0), given(3, "c", "w", 10), given(4, "d", "w", 20000), given(5, "e", "w", 30001)}}
	for _, worker := range []string{"w", "v", "x", "", "W"} {
		for now := 29990; now < 30020; now++ {
			expect(t, l, 1, worker, now)
		}
		for _, now := range append(edges, 20000, 30001, 50000, 50001, 60001) {
			expect(t, l, 3, worker, now)
		}
	}
	got := lease.Renew(l, "w", 30005)
	want := []int{30000, 30000, 60005, 60005, 60005}
	for i, x := range got.List {
		if x.Expires != want[i] {
			t.Errorf("Renew gives %v", x)
		}
	}
	for _, l := range variants(pair()) {
		expect(t, l, 3, "w", 1000)
		expect(t, l, 7, "v", 1000)
	}
	end := api.Leases{Next: 3, List: []api.Lease{given(1, "a", "w", api.MaxTime-5), given(2, "b", "w", api.MaxTime)}}
	if l := lease.Renew(end, "w", api.MaxTime); l.List[0].Expires != api.MaxTime+api.LeaseTime || lease.Valid(l) != api.OK {
		t.Error(l)
	}
}

// wild returns leases by chance, some of them with repeated tokens and jobs, in any order, and with any numbers.
func wild() api.Leases {
	l := api.Leases{Next: 1 + chance.IntN(9)}
	strange := chance.IntN(4)
	for range chance.IntN(7) {
		x := given(1+chance.IntN(9), string(rune('a'+chance.IntN(12))), []string{"v", "w", "w"}[chance.IntN(3)], chance.IntN(4)*api.LeaseTime/2)
		x.Expires += chance.IntN(2) * chance.IntN(2*api.LeaseTime)
		if chance.IntN(6) < strange {
			x.Expires = edges[chance.IntN(len(edges))]
		}
		if chance.IntN(20) < strange {
			x.Token = edges[chance.IntN(len(edges))]
		}
		if chance.IntN(20) < strange {
			x.Worker = ""
		}
		l.List = append(l.List, x)
	}
	if strange < 2 {
		l.Next = 10
		slices.SortStableFunc(l.List, func(a, b api.Lease) int { return cmp.Compare(a.Token, b.Token) })
	}
	if strange == 0 {
		l.List = slices.CompactFunc(l.List, func(a, b api.Lease) bool { return a.Token == b.Token })
	}
	return l
}

// P27.1 to P27.7: any leases, valid or not, and any numbers.
func TestAnyLeases(t *testing.T) {
	valid := 0
	for range 60000 {
		l := wild()
		if isValid(l) {
			valid++
		}
		token, now := chance.IntN(11), chance.IntN(6*api.LeaseTime)
		if chance.IntN(4) == 0 {
			token, now = edges[chance.IntN(len(edges))], edges[chance.IntN(len(edges))]
		}
		expect(t, l, token, []string{"v", "w", "x", ""}[chance.IntN(4)], now)
	}
	if valid < 2000 {
		t.Errorf("%d valid states", valid)
	}
}

// P27.4, P27.5: of several leases with a token the first one counts.
func TestRepeatedToken(t *testing.T) {
	l := api.Leases{List: []api.Lease{given(5, "a", "v", 0), given(4, "b", "w", 0), given(5, "c", "w", 100000), {}}}
	for _, worker := range []string{"v", "w", ""} {
		for _, token := range edges {
			for _, now := range edges {
				expectAnswers(t, l, token, worker, now)
			}
		}
		for _, now := range []int{0, 29999, 30000, 100000, 130000} {
			expectAnswers(t, l, 5, worker, now)
		}
	}
	if e := lease.Holds(l, 5, "w", 0); e != api.ErrStale {
		t.Error(e)
	}
	if e := lease.Holds(l, 0, "", -1); e != api.OK {
		t.Error(e)
	}
}

// P27.6: each lease of lists of all lengths.
func TestRelease(t *testing.T) {
	for length := range 6 {
		l := api.Leases{Next: 40}
		for i := range length {
			l.List = append(l.List, given(3*i+2, strconv.Itoa(i), "w", 0))
		}
		for token := -1; token < 41; token++ {
			expect(t, l, token, "w", 5)
		}
		l.Next = 0
		if got, e := lease.Release(l, 2); e != api.ErrInvalid || !same(got, l) {
			t.Error(got, e)
		}
		if got, e := lease.Release(l, 1); e != api.ErrInvalid || !same(got, l) {
			t.Error(got, e)
		}
	}
}

// record is what is known of the tokens that were granted.
type record struct {
	workers map[int]string
	ended   map[int]bool // whether a token was released, or has been seen to have expired
}

// check checks P27.8 at a time.
func (r record) check(t *testing.T, l api.Leases, now int) {
	t.Helper()
	holders := map[api.JobRef]int{}
	for token := range l.Next + 1 {
		for _, worker := range []string{"v", "w", "x"} {
			e := lease.Holds(l, token, worker, now)
			if e == api.OK && (r.ended[token] || r.workers[token] != worker) {
				t.Fatalf("%q holds %d at %d: %v", worker, token, now, l)
			}
			if e == api.OK {
				x, _ := lease.Find(l, token)
				holders[x.Ref]++
				continue
			}
			if r.workers[token] == worker {
				r.ended[token] = true
			}
		}
	}
	for ref, n := range holders {
		if n > 1 {
			t.Fatalf("%d workers hold leases of %v: %v", n, ref, l)
		}
	}
}

// P27.8: any sequence of calls.
func TestFencing(t *testing.T) {
	renewals, ends := 0, 0
	for range 400 {
		l, now := lease.New(), 0
		r := record{map[int]string{}, map[int]bool{}}
		for range 60 {
			now += chance.IntN(3) * chance.IntN(api.LeaseTime/2)
			worker := []string{"v", "w", "x"}[chance.IntN(3)]
			switch chance.IntN(4) {
			case 0:
				next, x, e := lease.Grant(l, job(strconv.Itoa(chance.IntN(5))), 1, worker, now)
				if e == api.OK {
					if r.workers[x.Token] != "" {
						t.Fatalf("%v was granted before", x)
					}
					r.workers[x.Token] = worker
				}
				l = next
			case 1:
				next := lease.Renew(l, worker, now)
				if !same(next, l) {
					renewals++
				}
				l = next
			case 2:
				token := 1 + chance.IntN(l.Next)
				if next, e := lease.Release(l, token); e == api.OK {
					r.ended[token] = true
					l = next
				}
			}
			expectValid(t, l, true)
			r.check(t, l, now)
		}
		ends += len(r.ended)
	}
	if renewals < 500 || ends < 500 {
		t.Errorf("%d renewals and %d ends", renewals, ends)
	}
}

// P27.1 to P27.7: as many leases as all workers of a controller hold.
func TestManyLeases(t *testing.T) {
	const n = api.MaxWorkers * api.MaxSlots
	l := api.Leases{Next: n + 1}
	for i := range n {
		l.List = append(l.List, given(i+1, strconv.Itoa(i), "w"+strconv.Itoa(i%api.MaxWorkers), i))
	}
	if e := lease.Valid(l); e != api.OK {
		t.Fatal(e)
	}
	if next, x, e := lease.Grant(l, job("new"), 1, "w0", n); e != api.OK || x.Token != n+1 || len(next.List) != n+1 {
		t.Error(x, e)
	}
	if _, _, e := lease.Grant(l, job(strconv.Itoa(n-1)), 1, "w0", n); e != api.ErrExists {
		t.Error(e)
	}
	if next := lease.Renew(l, "w1", n); len(next.List) != n || next.List[n-255].Expires != n+api.LeaseTime {
		t.Error("Renew")
	}
	if next, e := lease.Release(l, n/2); e != api.OK || len(next.List) != n-1 {
		t.Error(e)
	}
	if list := lease.Expired(l, api.LeaseTime+99); len(list) != 100 {
		t.Error(len(list))
	}
	l.List[n-1].Ref = l.List[0].Ref
	if e := lease.Valid(l); e != api.ErrInvalid {
		t.Error(e)
	}
}

// R5: arguments, with their spare capacity, remain as they are, and results do not share their memory.
func TestMemory(t *testing.T) {
	build := func() api.Leases {
		l := api.Leases{Next: 9}
		for i := range 6 {
			l.List = append(l.List, given(i+1, strconv.Itoa(i), "w", i))
		}
		return l
	}
	base := build()
	for length := range 6 {
		l := api.Leases{Next: base.Next, List: base.List[:length]}
		next, _, e := lease.Grant(l, job("new"), 1, "w", 9)
		if e != api.OK {
			t.Fatal(e)
		}
		results := [][]api.Lease{next.List, lease.Renew(l, "w", 9).List, lease.Renew(l, "v", 9).List, lease.Expired(l, api.MaxTime)}
		for token := 1; token <= length; token++ {
			left, e := lease.Release(l, token)
			if e != api.OK {
				t.Fatal(e)
			}
			results = append(results, left.List)
		}
		for i, result := range results {
			clear(result[:cap(result)])
			if !same(base, build()) {
				t.Fatal(length, i, base)
			}
		}
	}
}
