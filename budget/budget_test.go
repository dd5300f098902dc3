package budget_test

import (
	"math"
	"math/big"
	"math/rand/v2"
	"testing"

	"pipeline/api"
	"pipeline/budget"
)

// maxUnits is the greatest level, in thousandths.
const maxUnits = 1000 * api.MaxCost

// isValid is the chapter's definition of a valid bucket.
func isValid(b api.Bucket) bool {
	within := func(n, most int) bool { return 0 <= n && n <= most }
	return within(b.Rate, 1000) && within(b.Burst, api.MaxCost) && within(b.Level, 1000*b.Burst) && within(b.At, api.MaxTime)
}

func isTime(n int) bool { return 0 <= n && n <= api.MaxTime }

func isCost(n int) bool { return 0 <= n && n <= api.MaxCost }

// levelOf is the chapter's definition of the level of a valid bucket.
func levelOf(b api.Bucket, t int) int {
	if t <= b.At {
		return b.Level
	}
	level := new(big.Int).Mul(big.NewInt(int64(b.Rate)), big.NewInt(int64(t-b.At)))
	level.Add(level, big.NewInt(int64(b.Level)))
	if level.Cmp(big.NewInt(int64(1000*b.Burst))) > 0 {
		return 1000 * b.Burst
	}
	return int(level.Int64())
}

// buckets returns buckets at the edges of all ranges, valid ones and others.
func buckets() []api.Bucket {
	var list []api.Bucket
	for _, rate := range []int{math.MinInt, -1, 0, 1, 7, 1000, 1001, math.MaxInt} {
		for _, burst := range []int{math.MinInt, -1, 0, 1, 5, api.MaxCost, api.MaxCost + 1, math.MaxInt} {
			for _, level := range []int{math.MinInt, -1, 0, 1, 1000, 4999, 5000, 5001, maxUnits - 1, maxUnits, maxUnits + 1, math.MaxInt} {
				for _, at := range []int{math.MinInt, -1, 0, 1000, api.MaxTime - 1, api.MaxTime, api.MaxTime + 1, math.MaxInt} {
					list = append(list, api.Bucket{Rate: rate, Burst: burst, Level: level, At: at})
				}
			}
		}
	}
	return list
}

var (
	times = []int{math.MinInt, -1, 0, 999, 1000, 1001, 1143, 6000, api.MaxTime - 1, api.MaxTime, api.MaxTime + 1, math.MaxInt}
	costs = []int{math.MinInt, -1, 0, 1, 4, 5, 6, api.MaxCost - 1, api.MaxCost, api.MaxCost + 1, math.MaxInt}
)

// P22.1
func TestNew(t *testing.T) {
	accepted := 0
	for _, rate := range []int{math.MinInt, -1, 0, 1, 10, 1000, 1001, math.MaxInt} {
		for _, burst := range []int{math.MinInt, -1 << 61, -1, 0, 1, 5, api.MaxCost, api.MaxCost + 1, 1 << 61, math.MaxInt / 1000, math.MaxInt} {
			for _, now := range times {
				b, err := budget.New(rate, burst, now)
				if !isTime(now) || !isCost(burst) || rate < 0 || rate > 1000 {
					if b != (api.Bucket{}) || err != api.ErrRange {
						t.Errorf("New(%d, %d, %d) = %v, %v", rate, burst, now, b, err)
					}
					continue
				}
				accepted++
				if b != (api.Bucket{Rate: rate, Burst: burst, Level: 1000 * burst, At: now}) || err != api.OK {
					t.Errorf("New(%d, %d, %d) = %v, %v", rate, burst, now, b, err)
				}
			}
		}
	}
	if accepted != 4*4*8 {
		t.Errorf("%d buckets", accepted)
	}
}

// P22.2, P22.3, P22.4, P22.5: the definitions, at the edges of all ranges.
func TestDefinitions(t *testing.T) {
	valid := 0
	for _, b := range buckets() {
		if isValid(b) {
			valid++
		}
		for _, now := range times {
			want := 0
			if isValid(b) && isTime(now) {
				want = levelOf(b, now)
			}
			if got := budget.Level(b, now); got != want {
				t.Fatalf("Level(%v, %d) = %d, want %d", b, now, got, want)
			}
			for _, cost := range costs {
				expectSpend(t, b, now, cost)
				expectWhen(t, b, now, cost)
				expectRefund(t, b, now, cost)
			}
		}
	}
	if valid != 4*4*(1+3+5+8) { // by burst: 0, 1, 5 and the greatest
		t.Errorf("%d valid buckets", valid)
	}
}

func expectSpend(t *testing.T, b api.Bucket, now, cost int) {
	t.Helper()
	want, wantErr := b, api.OK
	switch {
	case !isValid(b):
		wantErr = api.ErrInvalid
	case !isTime(now) || !isCost(cost):
		wantErr = api.ErrRange
	case levelOf(b, now) < 1000*cost:
		wantErr = api.ErrLimit
	default:
		want.Level, want.At = levelOf(b, now)-1000*cost, max(b.At, now)
	}
	if got, err := budget.Spend(b, now, cost); got != want || err != wantErr {
		t.Fatalf("Spend(%v, %d, %d) = %v, %v, want %v, %v", b, now, cost, got, err, want, wantErr)
	}
}

func expectWhen(t *testing.T, b api.Bucket, now, cost int) {
	t.Helper()
	got, is := budget.When(b, now, cost)
	enough := func(at int) bool { return levelOf(b, at) >= 1000*cost }
	// The level never falls, so that it is never enough unless it is at the end of time.
	if !isValid(b) || !isTime(now) || !isCost(cost) || !enough(api.MaxTime) {
		if got != 0 || is {
			t.Fatalf("When(%v, %d, %d) = %d, %v", b, now, cost, got, is)
		}
		return
	}
	first := max(now, b.At)
	if !is || got < first || got > api.MaxTime || !enough(got) || got > first && enough(got-1) {
		t.Fatalf("When(%v, %d, %d) = %d, %v", b, now, cost, got, is)
	}
}

func expectRefund(t *testing.T, b api.Bucket, now, cost int) {
	t.Helper()
	want := b
	if isValid(b) && isTime(now) && isCost(cost) {
		want.Level, want.At = min(1000*b.Burst, levelOf(b, now)+1000*cost), max(b.At, now)
	}
	if got := budget.Refund(b, now, cost); got != want {
		t.Fatalf("Refund(%v, %d, %d) = %v, want %v", b, now, cost, got, want)
	}
}

// P22.2, P22.3, P22.4, P22.5: buckets that are found by chance.
func TestDefinitionsByChance(t *testing.T) {
	source := rand.New(rand.NewPCG(22, 2))
	for range 200000 {
		burst := source.IntN(1 << source.IntN(20))
		b := api.Bucket{Rate: source.IntN(1001), Burst: burst, Level: source.IntN(1000*burst + 1), At: source.IntN(1 << source.IntN(51))}
		now, cost := min(api.MaxTime, b.At+source.IntN(1<<source.IntN(30))-1000), source.IntN(burst+2)
		if got := budget.Level(b, now); isTime(now) && got != levelOf(b, now) {
			t.Fatalf("Level(%v, %d) = %d", b, now, got)
		}
		expectSpend(t, b, now, cost)
		expectWhen(t, b, now, cost)
		expectRefund(t, b, now, cost)
	}
}

// P22.2
func TestLevel(t *testing.T) {
	b := api.Bucket{Rate: 10, Burst: 5, Level: 1000, At: 1000}
	for now, want := range map[int]int{
		0: 1000, 999: 1000, 1000: 1000, 1001: 1010, 1100: 2000, 1399: 4990, 1400: 5000, 1401: 5000, api.MaxTime: 5000,
		-1: 0, api.MaxTime + 1: 0, math.MinInt: 0, math.MaxInt: 0,
	} {
		if got := budget.Level(b, now); got != want {
			t.Errorf("Level at %d = %d, want %d", now, got, want)
		}
	}
	if got := budget.Level(api.Bucket{Rate: 1000, Burst: api.MaxCost}, api.MaxTime); got != maxUnits {
		t.Errorf("Level at the end of time = %d", got)
	}
}

// P22.3: the errors in their order, each with the bucket unchanged.
func TestSpendErrors(t *testing.T) {
	b := api.Bucket{Rate: 10, Burst: 5, Level: 1000, At: 1000}
	wrong := api.Bucket{Rate: 10, Burst: 5, Level: 5001, At: 1000}
	for _, x := range []struct {
		b         api.Bucket
		now, cost int
		want      api.Errno
	}{
		{wrong, -1, -1, api.ErrInvalid}, {wrong, 1000, 9, api.ErrInvalid}, {wrong, 1000, 0, api.ErrInvalid},
		{b, -1, 9, api.ErrRange}, {b, api.MaxTime + 1, 0, api.ErrRange}, {b, 1000, -1, api.ErrRange}, {b, 1000, api.MaxCost + 1, api.ErrRange},
		{b, 1000, 2, api.ErrLimit}, {b, 1099, 2, api.ErrLimit}, {b, 0, 2, api.ErrLimit}, {b, api.MaxTime, 6, api.ErrLimit}, {b, 1000, api.MaxCost, api.ErrLimit},
	} {
		if got, err := budget.Spend(x.b, x.now, x.cost); got != x.b || err != x.want {
			t.Errorf("Spend(%v, %d, %d) = %v, %v, want %v", x.b, x.now, x.cost, got, err, x.want)
		}
	}
}

// P22.4: how long it takes is rounded up, and may be longer than there is time.
func TestWhen(t *testing.T) {
	slow := api.Bucket{Rate: 7, Burst: 5, Level: 1, At: 1000}
	late := api.Bucket{Rate: 1, Burst: 5, At: api.MaxTime - 1000}
	for _, x := range []struct {
		b         api.Bucket
		now, cost int
		want      int
		is        bool
	}{
		{slow, 0, 0, 1000, true}, {slow, 1000, 0, 1000, true}, {slow, 1001, 0, 1001, true}, {slow, 0, 1, 1143, true}, {slow, 1142, 1, 1143, true}, {slow, 1143, 1, 1143, true}, {slow, 1144, 1, 1144, true}, {slow, 1000, 5, 1715, true}, {slow, 9000, 5, 9000, true},
		{slow, 1000, 6, 0, false}, {slow, api.MaxTime, 6, 0, false}, {slow, api.MaxTime, 5, api.MaxTime, true}, {slow, api.MaxTime + 1, 0, 0, false}, {slow, -1, 0, 0, false}, {slow, 0, -1, 0, false}, {slow, 0, api.MaxCost + 1, 0, false},
		{late, 0, 1, api.MaxTime, true}, {late, 0, 2, 0, false}, {late, api.MaxTime, 1, api.MaxTime, true}, {late, api.MaxTime, 2, 0, false},
		{api.Bucket{}, 0, 0, 0, true}, {api.Bucket{}, 0, 1, 0, false}, {api.Bucket{Burst: 1}, 5, 1, 0, false}, {api.Bucket{Burst: 1, Level: 1000}, 5, 1, 5, true}, {api.Bucket{Burst: 1, Level: 999}, 5, 1, 0, false}, {api.Bucket{Rate: 1000}, 0, 1, 0, false}, {api.Bucket{Level: 1}, 0, 0, 0, false},
		{api.Bucket{Rate: 1, Burst: api.MaxCost}, 0, api.MaxCost, maxUnits, true},
	} {
		if got, is := budget.When(x.b, x.now, x.cost); got != x.want || is != x.is {
			t.Errorf("When(%v, %d, %d) = %d, %v, want %d, %v", x.b, x.now, x.cost, got, is, x.want, x.is)
		}
	}
}

// spending is a successful call of Spend.
type spending struct{ at, cost int }

// spend calls Spend at times that do not decrease.
func spend(source *rand.Rand, b api.Bucket) []spending {
	var all []spending
	now := b.At
	for range 40 {
		now += source.IntN(3) * source.IntN(200)
		cost := source.IntN(b.Burst + 2)
		if at, is := budget.When(b, now, cost); is && source.IntN(2) == 0 {
			now = at
		}
		if next, err := budget.Spend(b, now, cost); err == api.OK {
			all, b = append(all, spending{now, cost}), next
		}
	}
	return all
}

// P22.6
func TestBounds(t *testing.T) {
	source := rand.New(rand.NewPCG(22, 6))
	tight := 0
	for range 500 {
		b, _ := budget.New(source.IntN(30), 1+source.IntN(9), source.IntN(1000))
		all := spend(source, b)
		for i, first := range all {
			sum := 0
			for _, last := range all[i:] {
				sum += last.cost
				most := 1000*b.Burst + b.Rate*(last.at-first.at)
				if 1000*sum > most {
					t.Errorf("%v: %d from %d to %d", b, sum, first.at, last.at)
				}
				if last.at > first.at && most-1000*sum < 1000 {
					tight++
				}
			}
		}
	}
	if tight < 1000 {
		t.Errorf("the bound was almost reached only %d times", tight)
	}
}

// P22.7
func TestWaiting(t *testing.T) {
	source := rand.New(rand.NewPCG(22, 7))
	for range 20000 {
		burst := 1 + source.IntN(9)
		b := api.Bucket{Rate: source.IntN(30), Burst: burst, Level: source.IntN(1000*burst + 1), At: source.IntN(1000)}
		now, cost := b.At+source.IntN(300), source.IntN(burst+1)
		later := now + source.IntN(300)
		looked, err := budget.Spend(b, now, 0)
		if err != api.OK || budget.Level(looked, later) != budget.Level(b, later) {
			t.Errorf("%v is %v, %v after spending nothing at %d", b, looked, err, now)
		}
		at, is := budget.When(b, now, cost)
		if !is {
			at = api.MaxTime + 1
		} else if _, err := budget.Spend(b, at, cost); err != api.OK {
			t.Errorf("Spend(%v, %d, %d) = %v", b, at, cost, err)
		}
		for _, early := range []int{now, (now + at) / 2, at - 1} {
			if _, err := budget.Spend(b, early, cost); early >= now && early < at && err != api.ErrLimit {
				t.Errorf("Spend(%v, %d, %d) = %v, before %d", b, early, cost, err, at)
			}
		}
	}
}

// The examples of the chapter.
func TestExamples(t *testing.T) {
	b, err := budget.New(10, 5, 0)
	if err != api.OK || budget.Level(b, 0) != 5000 {
		t.Error("New", b, err)
	}
	b, err = budget.Spend(b, 0, 5)
	if err != api.OK || budget.Level(b, 0) != 0 || budget.Level(b, 100) != 1000 {
		t.Error("Spend", b, err)
	}
	if at, is := budget.When(b, 0, 2); at != 200 || !is {
		t.Error("When", at, is)
	}
	still, _ := budget.New(0, 5, 0)
	still, err = budget.Spend(still, 0, 5)
	if at, is := budget.When(still, 0, 1); at != 0 || is || err != api.OK {
		t.Error("with the rate 0", still, err, at, is)
	}
}
