package label_test

import (
	"math/big"
	"regexp"
	"slices"
	"strconv"
	"strings"
	"testing"

	"pipeline/api"
	"pipeline/ident"
	"pipeline/label"
)

const greatest = "9007199254740992"

var longest = strings.Repeat("n", api.MaxName)

var (
	labelForm = regexp.MustCompile(`^([a-z0-9][a-z0-9_.-]{0,63})(?:(=)(0|[1-9][0-9]*))?$`)
	needForm  = regexp.MustCompile(`^(?:(!)([a-z0-9][a-z0-9_.-]{0,63})|([a-z0-9][a-z0-9_.-]{0,63})(?:(>=|<=|=)(0|[1-9][0-9]*))?)$`)
)

// form is a label or a requirement: a name with a sign and a number, or with the sign ! alone, or without either.
type form struct {
	name, sign string
	n          int
}

// inRange returns the number of a text of digits, which may be empty.
func inRange(digits string) (int, bool) {
	n := new(big.Int)
	if digits != "" {
		n.SetString(digits, 10)
	}
	return int(n.Int64()), n.Cmp(big.NewInt(api.MaxNumber)) <= 0
}

// asLabel is the chapter's definition of a label.
func asLabel(s string) (form, bool) {
	m := labelForm.FindStringSubmatch(s)
	if m == nil || strings.HasSuffix(s, "\n") {
		return form{}, false
	}
	n, ok := inRange(m[3])
	return form{m[1], m[2], n}, ok
}

// asNeed is the chapter's definition of a requirement.
func asNeed(s string) (form, bool) {
	m := needForm.FindStringSubmatch(s)
	if m == nil || strings.HasSuffix(s, "\n") {
		return form{}, false
	}
	n, ok := inRange(m[5])
	return form{m[2] + m[3], m[1] + m[4], n}, ok
}

// satisfied is the chapter's definition of what satisfies a requirement.
func satisfied(labels []string, need string) bool {
	r, ok := asNeed(need)
	if !ok {
		return false
	}
	some := slices.ContainsFunc(labels, func(s string) bool {
		l, ok := asLabel(s)
		if !ok || l.name != r.name {
			return false
		}
		switch r.sign {
		case ">=":
			return l.sign == "=" && l.n >= r.n
		case "<=":
			return l.sign == "=" && l.n <= r.n
		case "=":
			return l.sign == "=" && l.n == r.n
		}
		return true
	})
	return some != (r.sign == "!")
}

// forms are strings some of which are labels and requirements.
func forms() []string {
	list := []string{
		"a", "0", "a.b", "a-", "a_", "9.-_z", longest, longest + "n", "", "A", "-a", "_a", ".a", "a b", " a", "a ", "a\n", "é", "a\x00", "a/b",
		"!a", "!", "!!a", "a!", "!A", "!a=1", "!a>=1", "! a", "!" + longest, "!" + longest + "n", "!\n", "!a\n",
		"=1", ">=1", "<=1", "a=", "a>=", "a<=", "a>1", "a<1", "a==1", "a=>1", "a=<1", "a>=>=1", "a>=<=1", "a<=>=1", "a>==1", "a=1=1", "a=1>=1", "a>=1=1", "a>=1<=1", "a<=1>=1",
	}
	numbers := []string{
		"0", "1", "10", "9007199254740991", greatest, "9007199254740993", "9007199254740999", "9223372036854775807", "9223372036854775808", "18446744073709551616", "18446744073709551617", "36893488147419103233",
		"00", "01", "0" + greatest, "-0", "-1", "+0", "+1", " 1", "1 ", "1\n", "1.0", "1e3", "0x1", "1_0", "1a", "a", "é", "１", "10000000000000000", strings.Repeat("1", 100000),
	}
	for _, name := range []string{"a", "cpu.2", longest, longest + "n", "A", "-a", ""} {
		for _, sign := range []string{"=", ">=", "<="} {
			for _, number := range numbers {
				list = append(list, name+sign+number)
			}
		}
	}
	for c := range 256 {
		b := string([]byte{byte(c)})
		list = append(list, b, "a"+b, b+"a", "a"+b+"1", "a="+b, "a=1"+b, "a"+b+"=1", "a>="+b, "!"+b)
	}
	return list
}

// words returns all strings of at most length bytes of the alphabet.
func words(alphabet string, length int) []string {
	all := []string{""}
	last := all
	for range length {
		var next []string
		for _, s := range last {
			for i := range len(alphabet) {
				next = append(next, s+alphabet[i:i+1])
			}
		}
		all, last = append(all, next...), next
	}
	return all
}

// lists returns all lists of at most length elements of the pool.
func lists(pool []string, length int) [][]string {
	all := [][]string{nil}
	last := all
	for range length {
		var next [][]string
		for _, list := range last {
			for _, s := range pool {
				next = append(next, append(slices.Clone(list), s))
			}
		}
		all, last = append(all, next...), next
	}
	return all
}

// P21.1, P21.2: the forms of labels and requirements.
func TestForms(t *testing.T) {
	labels, needs := 0, 0
	for _, s := range append(forms(), words("a01=<>!-", 5)...) {
		wantLabel, wantNeed := api.ErrSyntax, api.ErrSyntax
		if _, ok := asLabel(s); ok {
			wantLabel = api.OK
			labels++
		}
		if _, ok := asNeed(s); ok {
			wantNeed = api.OK
			needs++
		}
		if got := label.Valid([]string{s}); got != wantLabel {
			t.Errorf("Valid(%.99q) = %v, want %v", s, got, wantLabel)
		}
		if got := label.Need([]string{s}); got != wantNeed {
			t.Errorf("Need(%.99q) = %v, want %v", s, got, wantNeed)
		}
		// What has no form counts as nothing, and no labels satisfy it.
		if got := !label.Satisfies([]string{s}, []string{"!a"}); got != (wantLabel == api.OK && (s == "a" || strings.HasPrefix(s, "a="))) {
			t.Errorf("Satisfies(%.99q, !a) = %v", s, !got)
		}
		if got := label.Implies([]string{s}, []string{"x", "!x"}); got != (wantNeed != api.OK) {
			t.Errorf("Implies(%.99q, x and !x) = %v", s, got)
		}
	}
	if labels < 1000 || needs < labels {
		t.Errorf("only %d labels and %d requirements", labels, needs)
	}
}

// numbered returns labels with different names, ascending.
func numbered(count int) []string {
	list := make([]string, count)
	for i := range list {
		list[i] = "n" + strconv.Itoa(i)
	}
	return list
}

// P21.1
func TestValid(t *testing.T) {
	most := numbered(api.MaxLabels)
	for _, x := range []struct {
		labels []string
		want   api.Errno
	}{
		{nil, api.OK}, {[]string{}, api.OK}, {[]string{"linux"}, api.OK}, {[]string{"cpu=8", "linux"}, api.OK}, {[]string{"cpu2=" + greatest, "cpu10", "cpu=0"}, api.OK}, {[]string{"cpu=0", "cpu2"}, api.ErrOrder},
		{[]string{"a-b", "a=1"}, api.OK}, {[]string{"a=1", "a-b"}, api.ErrOrder}, {[]string{"a", "a-b=2", "a.b"}, api.OK}, {[]string{"a2", "a10"}, api.OK}, {[]string{"a10", "a2"}, api.ErrOrder}, {[]string{"a1", "a01"}, api.OK}, {[]string{"a01", "a1"}, api.ErrOrder},
		{most, api.OK}, {append(numbered(api.MaxLabels), "o"), api.ErrTooLong}, {numbered(100000), api.ErrTooLong}, {slices.Repeat([]string{"A"}, api.MaxLabels+1), api.ErrTooLong}, {slices.Repeat([]string{"a"}, api.MaxLabels+1), api.ErrTooLong},
		{append(numbered(api.MaxLabels-1), "A"), api.ErrSyntax}, {append(numbered(api.MaxLabels-1), "n0"), api.ErrExists}, {append(numbered(api.MaxLabels-1), "n0=1"), api.ErrExists}, {append(numbered(api.MaxLabels-1), "m"), api.ErrOrder},
		{[]string{"a", "a"}, api.ErrExists}, {[]string{"a=1", "a"}, api.ErrExists}, {[]string{"a", "a=1"}, api.ErrExists}, {[]string{"a=1", "a=2"}, api.ErrExists}, {[]string{"a=2", "a=1"}, api.ErrExists}, {[]string{"a=1", "b", "a=2"}, api.ErrExists}, {[]string{"a=1", "b", "c", "a"}, api.ErrExists},
		{[]string{"b", "a"}, api.ErrOrder}, {[]string{"b", "a", "b"}, api.ErrOrder}, {[]string{"b", "a", "A"}, api.ErrOrder}, {[]string{"b", "b", "A"}, api.ErrExists}, {[]string{"A", "b", "a"}, api.ErrSyntax}, {[]string{"b", "A", "a"}, api.ErrSyntax},
		{[]string{""}, api.ErrSyntax}, {[]string{"!a"}, api.ErrSyntax}, {[]string{"a>=1"}, api.ErrSyntax}, {[]string{"a<=1"}, api.ErrSyntax}, {[]string{"a=" + greatest + "0"}, api.ErrSyntax},
	} {
		if got := label.Valid(x.labels); got != x.want {
			t.Errorf("Valid(%.200q) = %v, want %v", x.labels, got, x.want)
		}
	}
}

// P21.2
func TestNeed(t *testing.T) {
	most := numbered(api.MaxLabels)
	for _, x := range []struct {
		needs []string
		want  api.Errno
	}{
		{nil, api.OK}, {[]string{}, api.OK}, {[]string{"linux"}, api.OK}, {[]string{"!gpu", "cpu<=8", "cpu=5", "cpu>=4", "linux"}, api.OK}, {[]string{"!a", "a"}, api.OK}, {[]string{"a", "a<=1", "a=1", "a>=1"}, api.OK}, {[]string{"a=1", "a=2", "a=10"}, api.OK}, {[]string{"a>=" + greatest}, api.OK},
		{[]string{"a10", "a2"}, api.ErrOrder}, {[]string{"a=10", "a=2"}, api.ErrOrder}, {[]string{"a", "!a"}, api.ErrOrder}, {[]string{"a>=1", "a=1"}, api.ErrOrder}, {[]string{"a-b", "a<=1"}, api.OK}, {[]string{"a<=1", "a-b"}, api.ErrOrder},
		{most, api.OK}, {append(numbered(api.MaxLabels), "o"), api.ErrTooLong}, {numbered(100000), api.ErrTooLong}, {slices.Repeat([]string{"A"}, api.MaxLabels+1), api.ErrTooLong}, {slices.Repeat([]string{"a"}, api.MaxLabels+1), api.ErrTooLong},
		{append(numbered(api.MaxLabels-1), "A"), api.ErrSyntax}, {append(numbered(api.MaxLabels-1), "n0"), api.ErrExists}, {append(numbered(api.MaxLabels-1), "n0=1"), api.ErrOrder}, {append(numbered(api.MaxLabels-1), "!m"), api.ErrOrder},
		{[]string{"a", "a"}, api.ErrExists}, {[]string{"!a", "!a"}, api.ErrExists}, {[]string{"a=1", "a=1"}, api.ErrExists}, {[]string{"a", "b", "a"}, api.ErrExists}, {[]string{"a<=1", "b", "c", "a<=1"}, api.ErrExists}, {[]string{"a", "b", "!a"}, api.ErrOrder},
		{[]string{"b", "a", "b"}, api.ErrOrder}, {[]string{"b", "a", "A"}, api.ErrOrder}, {[]string{"b", "b", "A"}, api.ErrExists}, {[]string{"A", "b", "a"}, api.ErrSyntax}, {[]string{"b", "A", "a"}, api.ErrSyntax},
		{[]string{""}, api.ErrSyntax}, {[]string{"!a=1"}, api.ErrSyntax}, {[]string{"a>1"}, api.ErrSyntax}, {[]string{"a<=" + greatest + "0"}, api.ErrSyntax},
	} {
		if got := label.Need(x.needs); got != x.want {
			t.Errorf("Need(%.200q) = %v, want %v", x.needs, got, x.want)
		}
	}
}

// examined is the definition of the errors of Valid and Need, where key returns what may not occur twice.
func examined(list []string, key func(string) (string, bool)) api.Errno {
	for i, s := range list {
		k, ok := key(s)
		if !ok {
			return api.ErrSyntax
		}
		if slices.ContainsFunc(list[:i], func(earlier string) bool { e, _ := key(earlier); return e == k }) {
			return api.ErrExists
		}
		if i > 0 && ident.Compare(list[i-1], s) != -1 {
			return api.ErrOrder
		}
	}
	return api.OK
}

// P21.1, P21.2: the first element with an error decides, for all short lists.
func TestErrorsOfLists(t *testing.T) {
	labelKey := func(s string) (string, bool) { l, ok := asLabel(s); return l.name, ok }
	needKey := func(s string) (string, bool) { _, ok := asNeed(s); return s, ok }
	for _, list := range lists([]string{"a", "a=2", "a=10", "a2", "a10", "a-b", "b=1", "!a", "!b", "a<=2", "a>=10", "A", ""}, 4) {
		if got, want := label.Valid(list), examined(list, labelKey); got != want {
			t.Errorf("Valid(%q) = %v, want %v", list, got, want)
		}
		if got, want := label.Need(list), examined(list, needKey); got != want {
			t.Errorf("Need(%q) = %v, want %v", list, got, want)
		}
	}
}

// P21.3
func TestSatisfiesExamples(t *testing.T) {
	for _, x := range []struct {
		labels, needs []string
		want          bool
	}{
		{nil, nil, true}, {[]string{"a"}, nil, true}, {[]string{"A"}, []string{}, true}, {nil, []string{"a"}, false}, {nil, []string{"!a"}, true}, {nil, []string{"a=0"}, false}, {nil, []string{"a>=0"}, false}, {nil, []string{"a<=" + greatest}, false}, {nil, []string{""}, false}, {nil, []string{"!"}, false},
		{[]string{"cpu=8", "linux"}, []string{"cpu>=4", "linux", "!gpu"}, true}, {[]string{"cpu=8", "linux"}, []string{"cpu=4"}, false}, {[]string{"cpu=8", "linux"}, []string{"linux", "cpu=4"}, false}, {[]string{"cpu=8", "linux"}, []string{"cpu=4", "linux"}, false}, {[]string{"cpu=8", "linux"}, []string{"cpu>=4", "A"}, false},
		{[]string{"a=" + greatest}, []string{"a=" + greatest, "a>=" + greatest, "a<=" + greatest, "a>=0", "a"}, true}, {[]string{"a=" + greatest}, []string{"a<=9007199254740991"}, false}, {[]string{"a=" + greatest}, []string{"a<=9007199254740993"}, false}, {[]string{"a=9007199254740993"}, []string{"a>=" + greatest}, false}, {[]string{"a=9007199254740993"}, []string{"!a"}, true},
		{[]string{"a", "a=2", "a=8"}, []string{"a", "a=2", "a=8", "a<=2", "a>=8", "a<=3"}, true}, {[]string{"a", "a=2", "a=8"}, []string{"a=3"}, false}, {[]string{"a=8", "a", "a=2"}, []string{"a<=1"}, false}, {[]string{"a=8", "a=2"}, []string{"!a"}, false}, {[]string{"a=8", "a=2", "a=8"}, []string{"a>=9"}, false}, {[]string{"b=3", "a=2", "a=8", "b=9"}, []string{"a=3"}, false},
		{[]string{"=1"}, []string{"="}, false}, {[]string{""}, []string{""}, false}, {[]string{"!a"}, []string{"!a"}, true}, {[]string{"!a"}, []string{"a"}, false}, {[]string{"a>=1"}, []string{"a"}, false}, {[]string{"a>=1"}, []string{"a>=1"}, false}, {[]string{"A"}, []string{"A"}, false}, {[]string{"a=01"}, []string{"a=01"}, false}, {[]string{"ab=1"}, []string{"a"}, false}, {[]string{"a=1"}, []string{"ab"}, false},
	} {
		if got := label.Satisfies(x.labels, x.needs); got != x.want {
			t.Errorf("Satisfies(%q, %q) = %v", x.labels, x.needs, got)
		}
	}
}

// P21.3: the definition, for all short lists, with names that occur twice and strings without a form.
func TestSatisfies(t *testing.T) {
	labels := []string{"a", "a=0", "a=1", "a=5", "a=" + greatest, "b", "b=1", "A", "a=01", "!a", "a>=1", ""}
	needs := []string{"a", "!a", "b", "!b", "b>=1", "!c", "c", "", "A", "!A", "a=01", "a>1"}
	for _, sign := range []string{">=", "<=", "="} {
		for _, n := range []string{"0", "1", "2", "5", "9007199254740991", greatest, "9007199254740993"} {
			needs = append(needs, "a"+sign+n)
		}
	}
	for _, l := range lists(labels, 3) {
		satisfies := map[string]bool{}
		for _, n := range needs {
			satisfies[n] = satisfied(l, n)
			if got := label.Satisfies(l, []string{n}); got != satisfies[n] {
				t.Errorf("Satisfies(%q, %q) = %v", l, n, got)
			}
		}
		if len(l) > 2 {
			continue
		}
		for _, n := range lists(needs, 2) {
			want := !slices.ContainsFunc(n, func(need string) bool { return !satisfies[need] })
			if got := label.Satisfies(l, n); got != want {
				t.Errorf("Satisfies(%q, %q) = %v", l, n, got)
			}
		}
	}
}

// R1, R2: lists of any length and strings of any length.
func TestLargeLists(t *testing.T) {
	const count = 200000
	var labels, needs, wrong []string
	for i := range count {
		labels = append(labels, "a="+strconv.Itoa(i*7919%count*2), "n"+strconv.Itoa(i))
		needs = append(needs, "a="+strconv.Itoa(i*2), "a>="+strconv.Itoa(i), "!b"+strconv.Itoa(i), "n"+strconv.Itoa(i))
		wrong = append(wrong, strings.Repeat("=", i%7))
	}
	if !label.Satisfies(append(labels, wrong...), needs) || label.Satisfies(labels, append(needs, "a="+strconv.Itoa(count*2))) || label.Satisfies(labels, append(needs, "a=1")) {
		t.Error("Satisfies with large lists")
	}
	if !label.Implies(needs, needs) || !label.Implies(append(slices.Clone(needs), "n1<=5"), append(slices.Clone(needs), "gpu")) {
		t.Error("Implies with large lists that contradict themselves")
	}
	var free []string
	for i := range count {
		free = append(free, "a>="+strconv.Itoa(i), "!b"+strconv.Itoa(i), "n"+strconv.Itoa(i))
	}
	if !label.Implies(free, append(slices.Clone(free), "a>=199999", "a")) || label.Implies(free, append(slices.Clone(free), "a>=200000")) || label.Implies(free, append(slices.Clone(free), "b")) {
		t.Error("Implies with large lists")
	}
	long := strings.Repeat("a=1>=!", 1<<20)
	if label.Satisfies([]string{long}, []string{long}) || !label.Satisfies([]string{long}, []string{"!a"}) || !label.Implies([]string{long}, nil) || label.Implies(nil, []string{long}) || label.Valid([]string{long}) != api.ErrSyntax || label.Need([]string{long}) != api.ErrSyntax {
		t.Error("a long string")
	}
}

// R5
func TestMemory(t *testing.T) {
	given := []string{"b=2", "a", "b=1", "A", "!c", "a>=1"}
	labels := append(make([]string, 0, 20), given...)
	needs := append(make([]string, 0, 20), given...)
	label.Valid(labels)
	label.Need(needs)
	label.Satisfies(labels, needs)
	label.Implies(labels, needs)
	want := append(slices.Clone(given), make([]string, 14)...)
	if !slices.Equal(labels[:20], want) || !slices.Equal(needs[:20], want) {
		t.Errorf("the arguments are changed to %q and %q", labels[:20], needs[:20])
	}
}
