package duration_test

import (
	"math"
	"math/big"
	"math/rand/v2"
	"regexp"
	"strconv"
	"strings"
	"testing"

	"pipeline/api"
	"pipeline/duration"
)

const longest = "13031248d22h7m22s624ms" // the text of MaxTime

var sizes = []int{86400000, 3600000, 60000, 1000, 1}

// texts are durations with their texts.
var texts = []struct {
	text string
	ms   int
}{
	{"0s", 0},
	{"1ms", 1},
	{"9ms", 9},
	{"10ms", 10},
	{"999ms", 999},
	{"1s", 1000},
	{"1s1ms", 1001},
	{"59s", 59000},
	{"59s999ms", 59999},
	{"1m", 60000},
	{"1m1ms", 60001},
	{"59m", 3540000},
	{"59m59s999ms", 3599999},
	{"1h", 3600000},
	{"1h30m", 5400000},
	{"1h1s", 3601000},
	{"23h", 82800000},
	{"23h59m59s999ms", 86399999},
	{"1d", 86400000},
	{"1d1ms", 86400001},
	{"1d2h3m4s5ms", 93784005},
	{"7d", 604800000},
	{"100d1s", 8640001000},
	{"13031248d", 1125899827200000},
	{"13031248d22h7m22s623ms", api.MaxTime - 1},
	{longest, api.MaxTime},
}

func checkParse(t *testing.T, s string, ms int, e api.Errno) {
	t.Helper()
	if gotMs, gotE := duration.Parse(s); gotMs != ms || gotE != e {
		t.Errorf("Parse(%.40q) = %d, %v, want %d, %v", s, gotMs, gotE, ms, e)
	}
}

// P5.1
func TestParse(t *testing.T) {
	for _, c := range texts {
		checkParse(t, c.text, c.ms, api.OK)
	}
}

// P5.1
func TestParseSyntax(t *testing.T) {
	for _, s := range []string{
		"", " ", "0", "00", "1", "90", "s", "ms", "d", "0ms", "0m", "0h", "0d", "00s", "0s0s", "0s1ms", "1d0s", "1d0h",
		"0d1s", "1h0m1s", "1s0ms", "01s", "001s", "1h01m", "1d00h",
		"1s1m", "1m1h", "1h1d", "1ms1s", "1ms1m", "1h2m1h", "1s1s", "1d1d", "1ms1ms", "1m1s1m", "1h1d1m",
		"24h", "60m", "60s", "1000ms", "90m", "100s", "1d24h", "1h60m", "1m60s", "1s1000ms", "99999999999999999999h",
		"18446744073709551617s", "9223372036854775807ms", "9223372036854775808m", "1d18446744073709551617h",
		" 1s", "1s ", "1 s", "1h 30m", "1s\n", "\t1s", "-1s", "+1s", "1d-1s", "1.5s", "1,5s", "1_0s", "1e3s", "0x1s",
		"1D", "1H", "1M", "1S", "1MS", "1Ms", "1x", "1msx", "1sx", "x1s", "1hm", "1dh", "1h1", "1h1m1", "1sm", "1mss", "1dms",
		"1w", "1y", "1us", "1min", "1sec", "1m s", "1s\x00", "\x001s", "1\xff", "é", "1µs", "\u0661s", "\uff11s", "5ms5",
		longest + "1", longest + "x", "13031250dx", "13031250d24h", "99999999999999999999d1", "099999999999999999999d",
		"99999999999999999999d1d", "99999999999999999999", "13031250d1h1d",
		strings.Repeat("1", 1<<16), strings.Repeat("d", 1<<16), strings.Repeat("1d", 1<<16),
	} {
		checkParse(t, s, 0, api.ErrSyntax)
	}
}

// P5.1
func TestParseRange(t *testing.T) {
	for _, s := range []string{
		"13031248d22h7m22s625ms", "13031248d22h7m23s", "13031248d22h8m", "13031248d23h", "13031249d", "13031250d", "13031249d1ms",
		"106751991167d", "106751991168d", // around MaxInt milliseconds
		"213503982334d", "213503982335d", // around 2^64 milliseconds: the product would wrap around to a short one
		"9223372036854775807d", "9223372036854775808d", "18446744073709551615d", "18446744073709551616d", "18446744073709551617d1h",
		"9223372036854775807d23h59m59s999ms", "99999999999999999999999d", "1" + strings.Repeat("0", 1<<16) + "d1ms",
	} {
		checkParse(t, s, 0, api.ErrRange)
	}
}

var form = regexp.MustCompile(`^(?:([1-9][0-9]*)d)?(?:([1-9]|1[0-9]|2[0-3])h)?(?:([1-9]|[1-5][0-9])m)?(?:([1-9]|[1-5][0-9])s)?(?:([1-9][0-9]{0,2})ms)?$`)

// parse computes what Parse returns from the form of a text and with big integers.
func parse(s string) (int, api.Errno) {
	if s == "0s" {
		return 0, api.OK
	}
	numbers := form.FindStringSubmatch(s)
	if s == "" || numbers == nil {
		return 0, api.ErrSyntax
	}
	sum := new(big.Int)
	for i, number := range numbers[1:] {
		n, _ := new(big.Int).SetString("0"+number, 10)
		sum.Add(sum, n.Mul(n, big.NewInt(int64(sizes[i]))))
	}
	if sum.Cmp(big.NewInt(api.MaxTime)) > 0 {
		return 0, api.ErrRange
	}
	return int(sum.Int64()), api.OK
}

// checkText compares Parse with parse, and Show with what Parse accepted.
func checkText(t *testing.T, s string) {
	t.Helper()
	ms, e := parse(s)
	checkParse(t, s, ms, e)
	if got := duration.Show(ms); e == api.OK && got != s {
		t.Errorf("Show(Parse(%q)) = %q", s, got)
	}
}

// P5.1 and P5.5: every string of up to six of these bytes.
func TestParseOfAllShortStrings(t *testing.T) {
	const letters = "0126dhms"
	var extend func(s string)
	extend = func(s string) {
		checkText(t, s)
		if len(s) == 6 || t.Failed() {
			return
		}
		for i := range len(letters) {
			extend(s + letters[i:i+1])
		}
	}
	extend("")
}

// P5.1 and P5.5: every number up to a thousand and a few others before every unit, alone and behind a larger unit.
func TestParseOfAllNumbers(t *testing.T) {
	numbers := []string{"", "00", "01", "010", "-1", "13031248", "13031249", "99999999999999999999"}
	for n := range 1100 {
		numbers = append(numbers, strconv.Itoa(n))
	}
	for _, number := range numbers {
		for _, unit := range []string{"d", "h", "m", "s", "ms", "", "sm", "dd"} {
			checkText(t, number+unit)
			checkText(t, "2d"+number+unit)
			checkText(t, "1h"+number+unit)
			checkText(t, number+unit+"7ms")
		}
	}
}

// P5.2
func TestShow(t *testing.T) {
	for _, c := range texts {
		if got := duration.Show(c.ms); got != c.text {
			t.Errorf("Show(%d) = %q, want %q", c.ms, got, c.text)
		}
	}
	for _, ms := range []int{-1, -5, -86400000, -api.MaxTime, math.MinInt, math.MinInt + 1} {
		if got := duration.Show(ms); got != "0s" {
			t.Errorf("Show(%d) = %q", ms, got)
		}
	}
	for _, ms := range []int{api.MaxTime + 1, api.MaxTime + 1000, 1 << 62, math.MaxInt - 1, math.MaxInt} {
		if got := duration.Show(ms); got != longest {
			t.Errorf("Show(%d) = %q", ms, got)
		}
	}
}

// some returns durations around the sizes of the units and their multiples, and random ones of all sizes.
func some() []int {
	list := []int{0, api.MaxTime - 1, api.MaxTime}
	for _, size := range sizes {
		for _, n := range []int{1, 2, 9, 10, 23, 24, 59, 60, 100, 999, 1000, 13031248} {
			list = append(list, n*size-1, n*size, n*size+1)
		}
	}
	source := rand.New(rand.NewPCG(5, 6))
	for range 2000 {
		list = append(list, source.IntN(api.MaxTime+1)>>source.IntN(50))
	}
	return list
}

// P5.5
func TestEveryDurationHasOneText(t *testing.T) {
	for _, ms := range some() {
		checkParse(t, duration.Show(ms), ms, api.OK)
	}
	for ms := range 200000 {
		checkParse(t, duration.Show(ms), ms, api.OK)
	}
}

// P5.3
func TestAdd(t *testing.T) {
	for _, c := range []struct{ t, ms, want int }{
		{5, 7, 12},
		{0, 0, 0},
		{5, -7, 0},
		{7, -5, 2},
		{-5, 7, 2},
		{-5, -7, 0},
		{api.MaxTime, 0, api.MaxTime},
		{api.MaxTime, 1, api.MaxTime},
		{1, api.MaxTime, api.MaxTime},
		{api.MaxTime - 1, 1, api.MaxTime},
		{api.MaxTime, -1, api.MaxTime - 1},
		{api.MaxTime + 10, -20, api.MaxTime - 10}, // only the sum is limited
		{-20, api.MaxTime + 10, api.MaxTime - 10},
		{math.MaxInt, math.MinInt, 0},
		{math.MinInt, math.MaxInt, 0},
		{math.MaxInt, -math.MaxInt + 3, 3},
		{math.MaxInt, 1, api.MaxTime},
		{math.MaxInt, math.MaxInt, api.MaxTime},
		{math.MinInt, -1, 0},
		{math.MinInt, math.MinInt, 0},
	} {
		if got := duration.Add(c.t, c.ms); got != c.want {
			t.Errorf("Add(%d, %d) = %d, want %d", c.t, c.ms, got, c.want)
		}
	}
}

// P5.4
func TestElapsed(t *testing.T) {
	for _, c := range []struct{ from, to, want int }{
		{3, 5, 2},
		{5, 3, 0},
		{5, 5, 0},
		{-3, 5, 8},
		{-5, -3, 2},
		{-3, -5, 0},
		{0, api.MaxTime, api.MaxTime},
		{1, api.MaxTime, api.MaxTime - 1},
		{-1, api.MaxTime, api.MaxTime},
		{0, api.MaxTime + 1, api.MaxTime},
		{api.MaxTime + 1, api.MaxTime + 3, 2}, // only the difference is limited
		{math.MaxInt - 4, math.MaxInt, 4},
		{math.MinInt, math.MinInt + 4, 4},
		{math.MinInt, math.MaxInt, api.MaxTime},
		{math.MinInt, 0, api.MaxTime},
		{math.MinInt, -1, api.MaxTime},
		{math.MinInt, math.MinInt, 0},
		{math.MaxInt, math.MinInt, 0},
		{0, math.MinInt, 0},
		{1, math.MinInt, 0},
		{math.MaxInt, math.MaxInt, 0},
	} {
		if got := duration.Elapsed(c.from, c.to); got != c.want {
			t.Errorf("Elapsed(%d, %d) = %d, want %d", c.from, c.to, got, c.want)
		}
	}
}

// limited returns n, limited to 0 to MaxTime.
func limited(n *big.Int) int {
	switch {
	case n.Sign() < 0:
		return 0
	case n.Cmp(big.NewInt(api.MaxTime)) > 0:
		return api.MaxTime
	}
	return int(n.Int64())
}

// P5.3 and P5.4, for ints of all sizes.
func TestSumsAndDifferencesAreLimited(t *testing.T) {
	list := []int{math.MinInt, math.MinInt + 1, -1, 0, 1, api.MaxTime - 1, api.MaxTime, api.MaxTime + 1, -api.MaxTime, math.MaxInt - 1, math.MaxInt}
	source := rand.New(rand.NewPCG(7, 8))
	for range 300 {
		list = append(list, int(source.Uint64())>>source.IntN(64))
	}
	for _, a := range list {
		for _, b := range list {
			x, y := big.NewInt(int64(a)), big.NewInt(int64(b))
			if got, want := duration.Add(a, b), limited(new(big.Int).Add(x, y)); got != want {
				t.Fatalf("Add(%d, %d) = %d, want %d", a, b, got, want)
			}
			if got, want := duration.Elapsed(a, b), limited(new(big.Int).Sub(y, x)); got != want {
				t.Fatalf("Elapsed(%d, %d) = %d, want %d", a, b, got, want)
			}
		}
	}
}

// P5.6
func TestElapsedUndoesAdd(t *testing.T) {
	list := some()[:200]
	for _, at := range list {
		for _, ms := range list {
			if at+ms > api.MaxTime {
				continue
			}
			if got := duration.Elapsed(at, duration.Add(at, ms)); got != ms {
				t.Fatalf("Elapsed(%d, Add(%d, %d)) = %d", at, at, ms, got)
			}
		}
	}
}
