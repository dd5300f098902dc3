package fairness_test

import (
	"math"
	"math/big"
	"math/rand/v2"
	"slices"
	"strconv"
	"strings"
	"testing"

	"pipeline/api"
	"pipeline/fairness"
	"pipeline/ident"
)

// isValid is the chapter's definition of valid shares.
func isValid(shares []api.Share) bool {
	for i, s := range shares {
		for _, earlier := range shares[:i] {
			if ident.Compare(earlier.Project, s.Project) >= 0 {
				return false
			}
		}
		if !ident.Name(s.Project) || s.Weight < 1 || s.Weight > api.MaxWeight || s.Served < 0 || s.Served > api.MaxTime {
			return false
		}
	}
	return len(shares) <= api.MaxProjects
}

func ratio(served, weight int) *big.Rat { return big.NewRat(int64(served), int64(weight)) }

// comesBefore is the chapter's definition for valid shares.
func comesBefore(a, b api.Share) bool {
	switch c := ratio(a.Served, a.Weight).Cmp(ratio(b.Served, b.Weight)); c {
	case 0:
		return ident.Compare(a.Project, b.Project) < 0
	default:
		return c < 0
	}
}

// smallest returns the smallest number that is not negative and, divided by weight, not below least. It need not be an int.
func smallest(least *big.Rat, weight int) *big.Int {
	product := new(big.Rat).Mul(least, ratio(weight, 1))
	quotient, rest := new(big.Int).QuoRem(product.Num(), product.Denom(), new(big.Int))
	if rest.Sign() > 0 {
		quotient.Add(quotient, big.NewInt(1))
	}
	return quotient
}

// added is what P23.1 says about Add.
func added(shares []api.Share, project string, weight int) ([]api.Share, api.Errno) {
	at := slices.IndexFunc(shares, func(s api.Share) bool { return s.Project == project })
	switch {
	case !isValid(shares):
		return shares, api.ErrInvalid
	case !ident.Name(project):
		return shares, api.ErrName
	case weight < 1 || weight > api.MaxWeight:
		return shares, api.ErrRange
	case at < 0 && len(shares) == api.MaxProjects:
		return shares, api.ErrFull
	}
	least := new(big.Rat)
	for i, s := range shares {
		if r := ratio(s.Served, s.Weight); at == i || at < 0 && (i == 0 || r.Cmp(least) < 0) {
			least = r
		}
	}
	served := smallest(least, weight)
	if served.Cmp(big.NewInt(api.MaxTime)) > 0 {
		return shares, api.ErrLimit
	}
	var list []api.Share
	for _, s := range shares {
		if s.Project != project {
			list = append(list, s)
		}
	}
	list = append(list, api.Share{Project: project, Weight: weight, Served: int(served.Int64())})
	slices.SortFunc(list, func(a, b api.Share) int { return ident.Compare(a.Project, b.Project) })
	return list, api.OK
}

// charged is what P23.2 says about Charge.
func charged(shares []api.Share, project string, cost int) ([]api.Share, api.Errno) {
	at := slices.IndexFunc(shares, func(s api.Share) bool { return s.Project == project })
	switch {
	case !isValid(shares):
		return shares, api.ErrInvalid
	case cost < 1 || cost > api.MaxCost:
		return shares, api.ErrRange
	case at < 0:
		return shares, api.ErrNotFound
	case shares[at].Served > api.MaxTime-cost:
		return shares, api.ErrLimit
	}
	list := slices.Clone(shares)
	list[at].Served += cost
	return list, api.OK
}

// picked is what P23.3 says about Pick.
func picked(shares []api.Share, projects []string) (string, bool) {
	if !isValid(shares) {
		return "", false
	}
	listed := func(s api.Share) bool { return slices.Contains(projects, s.Project) }
	for _, s := range shares {
		rival := func(other api.Share) bool {
			return listed(other) && other != s && !comesBefore(s, other)
		}
		if listed(s) && !slices.ContainsFunc(shares, rival) {
			return s.Project, true
		}
	}
	return "", false
}

var (
	names = []string{"", "a", "b", "a.10", "a.9", "A", "a/b", strings.Repeat("z", api.MaxName), strings.Repeat("z", api.MaxName+1)}
	// edges are the edges of all ranges.
	edges = []int{math.MinInt, -1, 0, 1, 2, 3, api.MaxWeight - 1, api.MaxWeight, api.MaxWeight + 1, api.MaxCost, api.MaxCost + 1, api.MaxTime - api.MaxCost, api.MaxTime - 1, api.MaxTime, api.MaxTime + 1, math.MaxInt}
)

func expectAdd(t *testing.T, shares []api.Share, project string, weight int) {
	t.Helper()
	want, wantErr := added(shares, project, weight)
	got, err := fairness.Add(shares, project, weight)
	if !slices.Equal(got, want) || err != wantErr {
		t.Fatalf("Add(%v, %q, %d) = %v, %v, want %v, %v", shares, project, weight, got, err, want, wantErr)
	}
}

func expectCharge(t *testing.T, shares []api.Share, project string, cost int) {
	t.Helper()
	want, wantErr := charged(shares, project, cost)
	got, err := fairness.Charge(shares, project, cost)
	if !slices.Equal(got, want) || err != wantErr {
		t.Fatalf("Charge(%v, %q, %d) = %v, %v, want %v, %v", shares, project, cost, got, err, want, wantErr)
	}
}

func expectPick(t *testing.T, shares []api.Share, projects ...string) {
	t.Helper()
	want, wantIs := picked(shares, projects)
	got, is := fairness.Pick(shares, projects)
	if got != want || is != wantIs {
		t.Fatalf("Pick(%v, %q) = %q, %v, want %q, %v", shares, projects, got, is, want, wantIs)
	}
}

// expectOrder checks P23.4 and P23.6.
func expectOrder(t *testing.T, shares []api.Share) {
	t.Helper()
	order := fairness.Order(shares)
	if !isValid(shares) {
		if len(order) > 0 {
			t.Fatalf("Order(%v) = %q", shares, order)
		}
		return
	}
	if len(order) != len(shares) {
		t.Fatalf("Order(%v) = %q", shares, order)
	}
	place := func(s api.Share) int { return slices.Index(order, s.Project) }
	for _, a := range shares {
		for _, b := range shares {
			if place(a) < 0 || comesBefore(a, b) && place(a) >= place(b) {
				t.Fatalf("Order(%v) = %q", shares, order)
			}
		}
	}
	for i := range order {
		listed := slices.Concat(slices.Clone(order[i:]), []string{"", "x", order[i]})
		slices.Reverse(listed)
		if got, is := fairness.Pick(shares, listed); got != order[i] || !is {
			t.Fatalf("Pick(%v, %q) = %q, %v, want %q", shares, listed, got, is, order[i])
		}
	}
}

// P23.1, P23.2, P23.3, P23.4: one share at the edges of all ranges.
func TestOneShare(t *testing.T) {
	valid := 0
	for _, name := range names {
		for _, weight := range edges {
			for _, served := range edges {
				shares := []api.Share{{Project: name, Weight: weight, Served: served}}
				if isValid(shares) {
					valid++
				}
				expectOrder(t, shares)
				for _, project := range names {
					expectPick(t, shares, project)
					for _, n := range edges {
						expectAdd(t, shares, project, n)
						expectCharge(t, shares, project, n)
					}
				}
			}
		}
	}
	if valid != 5*5*(len(edges)-4) {
		t.Errorf("%d valid shares", valid)
	}
}

// P23.1, P23.2, P23.3, P23.4: all lists of at most three small shares.
func TestSmallLists(t *testing.T) {
	var each []api.Share
	for _, name := range []string{"a.9", "a.10", "b", "-"} {
		for weight := range 4 {
			for served := -1; served < 4; served++ {
				each = append(each, api.Share{Project: name, Weight: weight, Served: served})
			}
		}
	}
	lists := [][]api.Share{nil, {}}
	for _, s := range each {
		lists = append(lists, []api.Share{s})
		for _, second := range each {
			lists = append(lists, []api.Share{s, second})
		}
	}
	for range 20000 {
		lists = append(lists, pickedShares(each, 3))
	}
	for _, list := range lists {
		expectOrder(t, list)
		expectPick(t, list)
		expectPick(t, list, "b", "x", "a.10", "b")
		expectPick(t, list, "a.9", "b")
		for _, project := range []string{"a.9", "a.9.1", "a.10", "b", "c", ""} {
			expectAdd(t, list, project, 2)
			expectAdd(t, list, project, 5)
			expectAdd(t, list, project, 0)
			expectCharge(t, list, project, 3)
			expectCharge(t, list, project, 0)
		}
	}
}

var chance = rand.New(rand.NewPCG(23, 1))

// pickedShares returns n of some shares, sorted by project, as by that most lists are valid.
func pickedShares(each []api.Share, n int) []api.Share {
	list := make([]api.Share, n)
	for i := range list {
		list[i] = each[chance.IntN(len(each))]
	}
	slices.SortFunc(list, func(a, b api.Share) int { return ident.Compare(a.Project, b.Project) })
	return list
}

// full returns MaxProjects valid shares.
func full() []api.Share {
	var shares []api.Share
	for i := range api.MaxProjects {
		shares = append(shares, api.Share{Project: "p" + strconv.Itoa(i), Weight: 1 + chance.IntN(api.MaxWeight), Served: chance.IntN(1000)})
	}
	return shares
}

// P23.1, P23.2, P23.3, P23.4: MaxProjects is permitted.
func TestLimit(t *testing.T) {
	shares := full()
	expectOrder(t, shares)
	more := append(full(), api.Share{Project: "q", Weight: 1})
	expectOrder(t, more)
	for _, weight := range []int{0, 1, api.MaxWeight} {
		for _, project := range []string{"p0", "p07", "p63", "p64", "a", ""} {
			expectAdd(t, shares, project, weight)
			expectAdd(t, shares[:api.MaxProjects-1], project, weight)
			expectAdd(t, more, project, weight)
			expectCharge(t, shares, project, weight)
			expectCharge(t, more, project, weight)
			expectPick(t, shares, project, "p40", "p5")
			expectPick(t, more, project, "p40", "p5")
		}
	}
}

// P23.1: if several errors apply, the first one that is named is returned.
func TestAddErrors(t *testing.T) {
	valid := full()
	invalid := append(full(), api.Share{Project: "q", Weight: 1})
	above := full()
	for i := range above {
		above[i].Served, above[i].Weight = api.MaxTime, 1
	}
	for _, c := range []struct {
		shares  []api.Share
		project string
		weight  int
		want    api.Errno
	}{
		{invalid, "Q", 0, api.ErrInvalid},
		{invalid, "x", 0, api.ErrInvalid},
		{invalid, "x", 1, api.ErrInvalid},
		{valid, "Q", 0, api.ErrName},
		{valid, "Q", 1, api.ErrName},
		{valid, "x", 0, api.ErrRange},
		{valid, "p1", api.MaxWeight + 1, api.ErrRange},
		{valid, "x", 1, api.ErrFull},
		{above, "x", 2, api.ErrFull},
		{above, "p1", 2, api.ErrLimit},
		{above[1:], "p0", 2, api.ErrLimit},
		{above, "p1", 0, api.ErrRange},
		{above, "p1", 1, api.OK},
	} {
		got, err := fairness.Add(c.shares, c.project, c.weight)
		if err != c.want || err != api.OK && !slices.Equal(got, c.shares) {
			t.Errorf("Add(%q, %d) returns %v, want %v", c.project, c.weight, err, c.want)
		}
	}
}

// P23.2: if several errors apply, the first one that is named is returned.
func TestChargeErrors(t *testing.T) {
	valid := []api.Share{{Project: "a", Weight: 1, Served: api.MaxTime}}
	invalid := []api.Share{{Project: "a", Weight: 0, Served: api.MaxTime}}
	for _, c := range []struct {
		shares  []api.Share
		project string
		cost    int
		want    api.Errno
	}{
		{invalid, "x", 0, api.ErrInvalid},
		{invalid, "a", 1, api.ErrInvalid},
		{valid, "x", 0, api.ErrRange},
		{valid, "a", api.MaxCost + 1, api.ErrRange},
		{valid, "x", 1, api.ErrNotFound},
		{valid, "", 1, api.ErrNotFound},
		{valid, "a", 1, api.ErrLimit},
	} {
		got, err := fairness.Charge(c.shares, c.project, c.cost)
		if err != c.want || !slices.Equal(got, c.shares) {
			t.Errorf("Charge(%v, %q, %d) = %v, %v, want %v", c.shares, c.project, c.cost, got, err, c.want)
		}
	}
}

// P23.1, P23.4: ratios that differ by less than a float can tell.
func TestExactRatios(t *testing.T) {
	shares := []api.Share{
		{Project: "a", Weight: 1000, Served: api.MaxTime},
		{Project: "b", Weight: 999, Served: api.MaxTime / 1000 * 999},
		{Project: "c", Weight: 1000, Served: api.MaxTime - 1},
		{Project: "d", Weight: 999, Served: api.MaxTime/1000*999 + 624},
		{Project: "e", Weight: 997, Served: api.MaxTime/1000*997 + 622},
	}
	expectOrder(t, shares)
	// The ratio of f exceeds that of g by 1/999000.
	const m = api.MaxTime/1000 - 1
	shares = append(shares, api.Share{Project: "f", Weight: 999, Served: 999*m + 1}, api.Share{Project: "g", Weight: 1000, Served: 1000*m + 1})
	expectOrder(t, shares)
	expectPick(t, shares, "f", "g")
	expectAdd(t, shares[5:], "x", 1000)
	for weight := 1; weight <= api.MaxWeight; weight++ {
		for i := range shares {
			expectAdd(t, shares, shares[i].Project, weight)
			expectAdd(t, shares[i:i+1], "x", weight)
		}
		expectAdd(t, shares, "x", weight)
	}
}

// P23.5
func TestBound(t *testing.T) {
	for range 200 {
		shares := full()[:1+chance.IntN(6)]
		var projects []string
		for _, s := range shares {
			if chance.IntN(4) > 0 {
				projects = append(projects, s.Project)
			}
		}
		most := make([]int, len(shares))
		bounds := differences(shares)
		for range 60 {
			p, is := fairness.Pick(shares, projects)
			if is != (len(projects) > 0) {
				t.Fatal(p, is, projects)
			}
			if !is {
				break
			}
			at := slices.IndexFunc(shares, func(s api.Share) bool { return s.Project == p })
			cost := 1 + chance.IntN([]int{1, 10, 1000, api.MaxCost}[chance.IntN(4)])
			most[at] = max(most[at], cost)
			var e api.Errno
			if shares, e = fairness.Charge(shares, p, cost); e != api.OK {
				t.Fatal(e)
			}
			for i, row := range differences(shares) {
				for j, d := range row {
					both := slices.Contains(projects, shares[i].Project) && slices.Contains(projects, shares[j].Project)
					if both && d.Cmp(bounds[i][j]) > 0 && d.Cmp(ratio(most[i], shares[i].Weight)) > 0 {
						t.Fatalf("%v exceeds %v by %v", shares[i], shares[j], d)
					}
				}
			}
		}
	}
}

// differences returns by how much the ratio of each share exceeds that of each one.
func differences(shares []api.Share) [][]*big.Rat {
	table := make([][]*big.Rat, len(shares))
	for i, a := range shares {
		for _, b := range shares {
			table[i] = append(table[i], new(big.Rat).Sub(ratio(a.Served, a.Weight), ratio(b.Served, b.Weight)))
		}
	}
	return table
}

// P23.1, P23.3, P23.4: the chapter's examples.
func TestExamples(t *testing.T) {
	shares := []api.Share{{Project: "a", Weight: 1}, {Project: "b", Weight: 3}}
	var served []string
	for range 5 {
		p, _ := fairness.Pick(shares, []string{"a", "b"})
		served = append(served, p)
		shares, _ = fairness.Charge(shares, p, 1)
	}
	if !slices.Equal(served, []string{"a", "b", "b", "b", "a"}) {
		t.Error(served)
	}
	shares, e := fairness.Add([]api.Share{{Project: "a", Weight: 2, Served: 10}}, "b", 3)
	if e != api.OK || !slices.Equal(shares, []api.Share{{Project: "a", Weight: 2, Served: 10}, {Project: "b", Weight: 3, Served: 15}}) {
		t.Error(shares, e)
	}
	shares, e = fairness.Add([]api.Share{{Project: "b", Weight: 3, Served: 10}}, "a", 1)
	if e != api.OK || !slices.Equal(shares, []api.Share{{Project: "a", Weight: 1, Served: 4}, {Project: "b", Weight: 3, Served: 10}}) {
		t.Error(shares, e)
	}
}

// R5: arguments, with their spare capacity, remain as they are, and results do not share their memory.
func TestMemory(t *testing.T) {
	spare := api.Share{Project: "spare", Weight: 7, Served: 7}
	list := []api.Share{{Project: "a", Weight: 1, Served: 9}, {Project: "c", Weight: 1, Served: 5}, spare, spare}
	projects := []string{"c", "a", "spare"}
	whole := slices.Clone(list)
	var results [][]api.Share
	for _, project := range []string{"0", "a", "b", "c", "d"} {
		result, _ := fairness.Add(list[:2], project, 3)
		results = append(results, result)
	}
	result, _ := fairness.Charge(list[:2], "a", 1)
	results = append(results, result)
	fairness.Pick(list[:2], projects[:2])
	order := fairness.Order(list[:2])
	if !slices.Equal(list, whole) || !slices.Equal(projects, []string{"c", "a", "spare"}) || !slices.Equal(order, []string{"c", "a"}) {
		t.Fatal(list, projects, order)
	}
	for _, result := range results {
		clear(result[:cap(result)])
	}
	if !slices.Equal(list, whole) {
		t.Error(list)
	}
}

// P23.3: elements of a long list may be any strings, in any order.
func TestLongList(t *testing.T) {
	shares := full()
	var projects []string
	for i := range 100000 {
		projects = append(projects, "p0"+strconv.Itoa(i))
	}
	expectPick(t, shares, projects...)
	expectPick(t, shares, append(projects, strings.Repeat("p", 1<<20), "p17", "p9", "p17")...)
}
