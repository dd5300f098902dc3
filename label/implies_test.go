package label_test

import (
	"math/rand/v2"
	"slices"
	"strconv"
	"testing"

	"pipeline/api"
	"pipeline/label"
)

// P21.4
func TestImpliesExamples(t *testing.T) {
	for _, x := range []struct {
		a, b []string
		want bool
	}{
		{nil, nil, true}, {nil, []string{"a"}, false}, {nil, []string{"!a"}, false}, {nil, []string{"a>=0"}, false}, {[]string{"a"}, nil, true}, {[]string{"a", "!b", "c=1"}, []string{}, true},
		{[]string{"cpu>=4", "cpu<=4"}, []string{"cpu=4"}, true}, {[]string{"cpu>=4", "cpu<=4"}, []string{"cpu", "cpu<=9", "cpu>=4", "cpu>=0"}, true}, {[]string{"cpu"}, []string{"cpu>=0"}, false}, {[]string{"cpu", "!cpu"}, []string{"gpu", "!gpu", "cpu=1", "cpu=2", "!"}, true},
		{[]string{"a"}, []string{"a"}, true}, {[]string{"!a"}, []string{"!a"}, true}, {[]string{"a"}, []string{"!a"}, false}, {[]string{"!a"}, []string{"a"}, false}, {[]string{"!a"}, []string{"!b"}, false}, {[]string{"!a"}, []string{"a<=0"}, false}, {[]string{"a"}, []string{"a", "b"}, false}, {[]string{"a"}, []string{"b", "a"}, false}, {[]string{"a", "b"}, []string{"b"}, true},
		{[]string{"a>=1"}, []string{"a"}, true}, {[]string{"a>=1"}, []string{"a>=0"}, true}, {[]string{"a>=1"}, []string{"a>=2"}, false}, {[]string{"a>=1"}, []string{"a<=" + greatest}, true}, {[]string{"a>=0"}, []string{"a<=9007199254740991"}, false}, {[]string{"a>=1"}, []string{"!b"}, false}, {[]string{"a<=1"}, []string{"a>=0"}, true}, {[]string{"a<=1"}, []string{"a<=2"}, true}, {[]string{"a<=1"}, []string{"a<=0"}, false}, {[]string{"a<=1"}, []string{"!a"}, false},
		// At the ends of the range there is only one number left.
		{[]string{"a<=0"}, []string{"a=0"}, true}, {[]string{"a<=1"}, []string{"a=0"}, false}, {[]string{"a>=" + greatest}, []string{"a=" + greatest}, true}, {[]string{"a>=9007199254740991"}, []string{"a=" + greatest}, false}, {[]string{"a>=0"}, []string{"a<=" + greatest, "a>=0", "a"}, true},
		{[]string{"a=1"}, []string{"a", "a>=1", "a<=1", "a>=0", "a<=5", "a=1"}, true}, {[]string{"a=1"}, []string{"a=2"}, false}, {[]string{"a=1", "a=2"}, []string{"b"}, true}, {[]string{"a=1", "!a"}, []string{"b"}, true}, {[]string{"!a", "a>=1"}, []string{"b"}, true}, {[]string{"a>=5", "a<=4"}, []string{"b"}, true}, {[]string{"a>=5", "a<=5", "a=6"}, []string{"b"}, true}, {[]string{"a>=5", "b", "a<=4"}, []string{"!b"}, true}, {[]string{"b", "!b", "a"}, []string{"!a"}, true},
		// The numbers of different names, and names that begin alike, have nothing to do with each other.
		{[]string{"a>=5", "b<=4"}, []string{"c"}, false}, {[]string{"a>=5", "b<=4"}, []string{"a<=4"}, false}, {[]string{"a", "!ab"}, []string{"!a"}, false}, {[]string{"a=1", "ab=2"}, []string{"a=2"}, false},
		// Strings without a form.
		{[]string{""}, []string{"a"}, true}, {[]string{"A"}, []string{"a", "!a", "A"}, true}, {[]string{"a", "a=01"}, []string{"b"}, true}, {[]string{"a=9007199254740993"}, []string{"b"}, true}, {[]string{"a"}, []string{"A"}, false}, {[]string{"a"}, []string{"a", ""}, false}, {nil, []string{"!"}, false}, {nil, []string{"!A"}, false}, {[]string{"a=1"}, []string{"a<=9007199254740993"}, false}, {[]string{"a", "!a"}, []string{""}, true}, {[]string{"A"}, []string{"A"}, true},
	} {
		if got := label.Implies(x.a, x.b); got != x.want {
			t.Errorf("Implies(%q, %q) = %v", x.a, x.b, got)
		}
	}
}

// worlds returns all lists of labels that differ for requirements with these numbers and those names, with no name twice.
func worlds(names []string, numbers []int) [][]string {
	all := [][]string{nil}
	for _, name := range names {
		var next [][]string
		for _, list := range all {
			next = append(next, list, append(slices.Clone(list), name))
			for _, n := range numbers {
				next = append(next, append(slices.Clone(list), name+"="+strconv.Itoa(n)))
			}
		}
		all = next
	}
	return all
}

// requirements returns requirements of all forms, and strings that are none.
func requirements(names []string, numbers []int) []string {
	list := []string{"A", "", "a=01"}
	for _, name := range names {
		list = append(list, name, "!"+name)
		for _, n := range numbers {
			for _, sign := range []string{">=", "<=", "="} {
				list = append(list, name+sign+strconv.Itoa(n))
			}
		}
	}
	return list
}

// oracle tells by the definition which requirements imply others.
type oracle struct {
	worlds int
	holds  map[string][]bool // for each requirement, which of the worlds satisfy it
}

func newOracle(worlds [][]string, needs []string) oracle {
	o := oracle{len(worlds), map[string][]bool{}}
	for _, need := range needs {
		for _, w := range worlds {
			o.holds[need] = append(o.holds[need], satisfied(w, need))
		}
	}
	return o
}

func (o oracle) all(needs []string, world int) bool {
	return !slices.ContainsFunc(needs, func(need string) bool { return !o.holds[need][world] })
}

func (o oracle) implies(a, b []string) bool {
	for w := range o.worlds {
		if o.all(a, w) && !o.all(b, w) {
			return false
		}
	}
	return true
}

// P21.4: the definition, for all lists of at most two requirements and each further one.
func TestImplies(t *testing.T) {
	// Between two numbers of the requirements there is one more among those of the labels.
	names, numbers := []string{"a", "b"}, []int{0, 1, 3, api.MaxNumber - 1, api.MaxNumber}
	pool := requirements(names, numbers)
	o := newOracle(worlds(names, append(numbers, 2, 4, 1000)), pool)
	for _, a := range lists(pool, 2) {
		for _, b := range pool {
			if got, want := label.Implies(a, []string{b}), o.implies(a, []string{b}); got != want {
				t.Errorf("Implies(%q, %q) = %v", a, b, got)
			}
		}
	}
}

// pick returns at most count elements of the pool.
func pick(source *rand.Rand, pool []string, count int) []string {
	var list []string
	for range source.IntN(count + 1) {
		list = append(list, pool[source.IntN(len(pool))])
	}
	return list
}

// P21.4, P21.5: longer lists that are found by chance.
func TestConsequences(t *testing.T) {
	names, numbers := []string{"a", "b"}, []int{0, 2, 4, api.MaxNumber}
	pool := requirements(names, numbers)[3:]
	all := worlds(names, append(numbers, 1, 3, 5))
	o := newOracle(all, append(pool, "A"))
	source := rand.New(rand.NewPCG(21, 4))
	implied, transitive := 0, 0
	for range 20000 {
		a, b, c := pick(source, pool, 4), pick(source, pool, 3), pick(source, pool, 2)
		if source.IntN(50) == 0 {
			a = append(a, "A")
		}
		ab := label.Implies(a, b)
		if ab != o.implies(a, b) {
			t.Errorf("Implies(%q, %q) = %v", a, b, ab)
		}
		if !label.Implies(a, a) || slices.ContainsFunc(a, func(need string) bool { return !label.Implies(a, []string{need}) }) {
			t.Errorf("%q does not imply itself", a)
		}
		if ab && label.Implies(b, c) {
			transitive++
			if !label.Implies(a, c) {
				t.Errorf("%q implies %q, which implies %q, but not the last", a, b, c)
			}
		}
		if !ab {
			continue
		}
		implied++
		for _, w := range all {
			if label.Satisfies(w, a) != label.Satisfies(w, slices.Concat(a, b)) {
				t.Errorf("%q implies %q, but %q satisfies only one of the lists", a, b, w)
			}
		}
	}
	if implied < 1000 || transitive < 1000 {
		t.Errorf("only %d of the pairs, %d of the triples", implied, transitive)
	}
}
