package matrix_test

import (
	"fmt"
	"math"
	"math/rand/v2"
	"reflect"
	"slices"
	"strings"
	"testing"

	"pipeline/api"
	"pipeline/ident"
	"pipeline/matrix"
	"pipeline/value"
)

var null = api.Value{}

func truth(b bool) api.Value { return api.Value{Kind: api.VBool, Bool: b} }

func number(n int) api.Value { return api.Value{Kind: api.VInt, Int: n} }

func str(s string) api.Value { return api.Value{Kind: api.VString, Str: s} }

func list(elements ...api.Value) api.Value { return api.Value{Kind: api.VList, List: elements} }

func axis(name string, values ...api.Value) api.Axis { return api.Axis{Name: name, Values: values} }

// numbers returns so many different values.
func numbers(count int) []api.Value {
	values := make([]api.Value, count)
	for i := range values {
		values[i] = number(i)
	}
	return values
}

// vars returns variables of names, each followed by its value.
func vars(words ...any) []api.Var {
	var all []api.Var
	for i := 0; i < len(words); i += 2 {
		v, ok := words[i+1].(api.Value)
		if n, isInt := words[i+1].(int); !ok && isInt {
			v = number(n)
		} else if s, isString := words[i+1].(string); !ok && isString {
			v = str(s)
		}
		all = append(all, api.Var{Name: words[i].(string), Value: v})
	}
	return all
}

// shown returns the suffixes of instances.
func shown(instances [][]api.Var) string {
	var s []string
	for _, x := range instances {
		s = append(s, matrix.Suffix(x))
	}
	return strings.Join(s, " ")
}

var (
	longName = strings.Repeat("n", api.MaxName)
	longText = strings.Repeat("s", api.MaxString)
	scalars  = []api.Value{null, truth(false), truth(true), number(0), number(1), number(-1), str(""), str("0"), str("null"), str("true")}
)

var valid = []struct {
	name string
	m    api.Matrix
}{
	{"nothing", api.Matrix{}},
	{"as many axes as may be", api.Matrix{Axes: []api.Axis{axis("a"), axis("b"), axis("c"), axis("d"), axis("e"), axis("f"), axis("g"), axis("h")}}},
	{"as many values as may be", api.Matrix{Axes: []api.Axis{axis("a", numbers(api.MaxList)...), axis("b", numbers(api.MaxList)...)}}},
	{"scalars", api.Matrix{Axes: []api.Axis{axis("a", scalars...)}}},
	{"names of any bytes", api.Matrix{Axes: []api.Axis{axis(longName, null), axis("\x00"), axis("a b"), axis("true"), axis(" "), axis("A"), axis("a"), axis("a01")}}},
	{"greatest values", api.Matrix{Axes: []api.Axis{axis("a", number(api.MaxNumber), number(-api.MaxNumber), str(longText), str("\xff\n"))}}},
	{"empty lists of other fields", api.Matrix{Axes: []api.Axis{axis("a", api.Value{List: []api.Value{}, Keys: []string{}})}}},
	{"as many inclusions as may be", api.Matrix{Include: make([][]api.Var, api.MaxList)}},
	{"as many exclusions as may be", api.Matrix{Exclude: slices.Repeat([][]api.Var{vars("a", 1)}, api.MaxList)}},
	{"names that are no axes", api.Matrix{Axes: []api.Axis{axis("a", number(1))}, Include: [][]api.Var{vars("b", 1, "a", "x", longName, null), nil}, Exclude: [][]api.Var{vars("c", 1, "a", 7)}}},
	{"many variables", api.Matrix{Include: [][]api.Var{named(3000)}, Exclude: [][]api.Var{named(3000)}}},
}

// named returns so many variables with different names.
func named(count int) []api.Var {
	all := make([]api.Var, count)
	for i := range all {
		all[i] = api.Var{Name: fmt.Sprint("v", i), Value: number(i)}
	}
	return all
}

// P16.1
func TestValid(t *testing.T) {
	for _, x := range valid {
		if err := matrix.Valid(x.m); err != api.OK {
			t.Errorf("Valid(%s) = %v", x.name, err)
		}
	}
}

// improper are lists of variables that are not proper.
var improper = []struct {
	name string
	vars []api.Var
	want api.Errno
}{
	{"empty name", vars("", 1), api.ErrInvalid},
	{"long name", vars(longName+"n", 1), api.ErrInvalid},
	{"list", vars("a", list()), api.ErrType},
	{"map", vars("a", api.Value{Kind: api.VMap}), api.ErrType},
	{"list that is not valid", vars("a", list(number(math.MaxInt))), api.ErrType},
	{"kind", vars("a", api.Value{Kind: 6}), api.ErrInvalid},
	{"other field", vars("a", api.Value{Str: "a"}), api.ErrInvalid},
	{"number", vars("a", api.MaxNumber+1), api.ErrRange},
	{"text", vars("a", longText+"s"), api.ErrTooLong},
	{"same name", vars("a", 1, "a", 1), api.ErrExists},
	{"same name, other value", vars("a", 1, "b", 1, "a", 2), api.ErrExists},
	{"name before value", vars("", list()), api.ErrInvalid},
	{"name before number", vars("", math.MaxInt), api.ErrInvalid},
	{"list before same name", vars("a", 1, "a", list()), api.ErrType},
	{"number before same name", vars("a", 1, "a", math.MaxInt), api.ErrRange},
	{"variable by variable: number", vars("a", 1, "b", math.MaxInt, "a", 1, "", 1), api.ErrRange},
	{"variable by variable: same name", vars("a", 1, "a", 1, "b", math.MaxInt, "", 1), api.ErrExists},
	{"variable by variable: name", vars("a", 1, "", 1, "b", math.MaxInt, "a", 1), api.ErrInvalid},
	{"variable by variable: list", vars("a", list(), "a", 1, "", 1), api.ErrType},
	{"the last of many", append(named(3000), vars("v0", 1)...), api.ErrExists},
}

var invalid = []struct {
	name string
	m    api.Matrix
	want api.Errno
}{
	{"axes", api.Matrix{Axes: []api.Axis{axis("a"), axis("b"), axis("c"), axis("d"), axis("e"), axis("f"), axis("g"), axis("h"), axis("i")}}, api.ErrLimit},
	{"empty name", api.Matrix{Axes: []api.Axis{axis("", number(1))}}, api.ErrInvalid},
	{"long name", api.Matrix{Axes: []api.Axis{axis(longName + "n")}}, api.ErrInvalid},
	{"same name", api.Matrix{Axes: []api.Axis{axis("a", number(1)), axis("b"), axis("a")}}, api.ErrExists},
	{"many values", api.Matrix{Axes: []api.Axis{axis("a", numbers(api.MaxList+1)...)}}, api.ErrTooLong},
	{"list", api.Matrix{Axes: []api.Axis{axis("a", number(1), list())}}, api.ErrType},
	{"map", api.Matrix{Axes: []api.Axis{axis("a", api.Value{Kind: api.VMap})}}, api.ErrType},
	{"list that is not valid", api.Matrix{Axes: []api.Axis{axis("a", list(number(math.MaxInt)))}}, api.ErrType},
	{"kind", api.Matrix{Axes: []api.Axis{axis("a", api.Value{Kind: -1})}}, api.ErrInvalid},
	{"other field", api.Matrix{Axes: []api.Axis{axis("a", api.Value{Kind: api.VBool, Int: 1})}}, api.ErrInvalid},
	{"number", api.Matrix{Axes: []api.Axis{axis("a", number(-api.MaxNumber-1))}}, api.ErrRange},
	{"text", api.Matrix{Axes: []api.Axis{axis("a", str(longText+"s"))}}, api.ErrTooLong},
	{"same number", api.Matrix{Axes: []api.Axis{axis("a", number(1), number(2), number(1))}}, api.ErrExists},
	{"same null", api.Matrix{Axes: []api.Axis{axis("a", null, null)}}, api.ErrExists},
	{"same boolean", api.Matrix{Axes: []api.Axis{axis("a", truth(false), truth(true), truth(true))}}, api.ErrExists},
	{"same text", api.Matrix{Axes: []api.Axis{axis("a", str(longText), str(""), str(longText))}}, api.ErrExists},
	{"same value at last", api.Matrix{Axes: []api.Axis{axis("a", append(numbers(api.MaxList-1), number(0))...)}}, api.ErrExists},
	{"inclusions", api.Matrix{Include: make([][]api.Var, api.MaxList+1)}, api.ErrTooLong},
	{"exclusions", api.Matrix{Exclude: make([][]api.Var, api.MaxList+1)}, api.ErrTooLong},

	// Which error comes first of one axis.
	{"name before values", api.Matrix{Axes: []api.Axis{axis("", numbers(api.MaxList+1)...)}}, api.ErrInvalid},
	{"empty names twice", api.Matrix{Axes: []api.Axis{axis(""), axis("")}}, api.ErrInvalid},
	{"same name before values", api.Matrix{Axes: []api.Axis{axis("a"), axis("a", numbers(api.MaxList+1)...)}}, api.ErrExists},
	{"same name before a value", api.Matrix{Axes: []api.Axis{axis("a"), axis("a", list())}}, api.ErrExists},
	{"many values before their types", api.Matrix{Axes: []api.Axis{axis("a", append([]api.Value{list()}, numbers(api.MaxList)...)...)}}, api.ErrTooLong},
	{"value by value: type", api.Matrix{Axes: []api.Axis{axis("a", number(1), list(), number(1), number(math.MaxInt))}}, api.ErrType},
	{"value by value: number", api.Matrix{Axes: []api.Axis{axis("a", number(1), number(math.MaxInt), list(), number(1))}}, api.ErrRange},
	{"value by value: same value", api.Matrix{Axes: []api.Axis{axis("a", number(1), number(1), list(), number(math.MaxInt))}}, api.ErrExists},
	{"number before same value", api.Matrix{Axes: []api.Axis{axis("a", number(math.MaxInt), number(math.MaxInt))}}, api.ErrRange},

	// Axis by axis, and then what is included and excluded.
	{"number of axes before their names", api.Matrix{Axes: make([]api.Axis, api.MaxAxes+1)}, api.ErrLimit},
	{"axis by axis: value", api.Matrix{Axes: []api.Axis{axis("a", list()), axis(""), axis("a")}}, api.ErrType},
	{"axis by axis: name", api.Matrix{Axes: []api.Axis{axis("a"), axis(""), axis("a"), axis("b", list())}}, api.ErrInvalid},
	{"axis by axis: same name", api.Matrix{Axes: []api.Axis{axis("a"), axis("a"), axis(""), axis("b", list())}}, api.ErrExists},
	{"axes before inclusions", api.Matrix{Axes: []api.Axis{axis("a", list())}, Include: make([][]api.Var, api.MaxList+1), Exclude: [][]api.Var{vars("", 1)}}, api.ErrType},
	{"inclusions before exclusions", api.Matrix{Include: [][]api.Var{vars("a", list())}, Exclude: make([][]api.Var, api.MaxList+1)}, api.ErrType},
	{"number of inclusions before exclusions", api.Matrix{Include: make([][]api.Var, api.MaxList+1), Exclude: [][]api.Var{vars("", 1)}}, api.ErrTooLong},
	{"number of inclusions before their variables", api.Matrix{Include: append([][]api.Var{vars("", 1)}, make([][]api.Var, api.MaxList)...)}, api.ErrTooLong},
	{"number of exclusions before their variables", api.Matrix{Exclude: append([][]api.Var{vars("", 1)}, make([][]api.Var, api.MaxList)...)}, api.ErrTooLong},
	{"the first inclusion", api.Matrix{Include: [][]api.Var{vars("a", 1), vars("a", math.MaxInt), vars("", 1)}}, api.ErrRange},
	{"the first exclusion", api.Matrix{Exclude: [][]api.Var{nil, vars("a", 1, "a", 1), vars("", 1)}}, api.ErrExists},
}

// expectInvalid checks that Valid and Expand return an error, and no instances with it.
func expectInvalid(t *testing.T, name string, m api.Matrix, want api.Errno) {
	t.Helper()
	if err := matrix.Valid(m); err != want {
		t.Errorf("Valid(%s) = %v, want %v", name, err, want)
	}
	if instances, err := matrix.Expand(m); err != want || len(instances) != 0 {
		t.Errorf("Expand(%s) = %.60s, %v, want %v", name, shown(instances), err, want)
	}
}

// P16.1, P16.3
func TestInvalid(t *testing.T) {
	for _, x := range invalid {
		expectInvalid(t, x.name, x.m, x.want)
		// Valid is before the number of combinations.
		if x.m.Axes == nil {
			x.m.Axes = []api.Axis{axis("x", numbers(api.MaxInstances+1)...)}
			expectInvalid(t, x.name, x.m, x.want)
		}
	}
	for _, x := range improper {
		expectInvalid(t, "included "+x.name, api.Matrix{Include: [][]api.Var{vars("a", 1), x.vars}, Exclude: [][]api.Var{vars("", 1, "", 1)}}, x.want)
		expectInvalid(t, "excluded "+x.name, api.Matrix{Include: [][]api.Var{vars("a", 1)}, Exclude: [][]api.Var{vars("a", 1), x.vars, vars("", 1)}}, x.want)
	}
}

// P16.2
func TestMatches(t *testing.T) {
	m := func(key string) api.Value {
		return api.Value{Kind: api.VMap, Keys: []string{key}, List: []api.Value{number(1)}}
	}
	for _, x := range []struct {
		vars, pattern []api.Var
		want          bool
	}{
		{nil, nil, true},
		{vars("a", 1), nil, true},
		{nil, vars("a", 1), false},
		{vars("a", 1), vars("a", 1), true},
		{vars("a", 1, "b", 2), vars("b", 2), true},
		{vars("a", 1, "b", 2), vars("b", 2, "a", 1), true},
		{vars("a", 1), vars("a", 1, "b", 2), false},
		{vars("a", 1), vars("a", 2), false},
		{vars("a", 1), vars("A", 1), false},
		{vars("a", 1, "b", 2), vars("a", 1, "b", 3), false},
		{vars("a", 1, "b", 2), vars("a", 3, "b", 2), false},
		{vars("a1", 1), vars("a01", 1), false},
		{vars("a", 1), vars("a", "1"), false},
		{vars("a", null), vars("a", null), true},
		{vars("b", 1), vars("a", null), false}, // no value is not null
		{nil, vars("a", null), false},
		{vars("a", null), vars("a", truth(false)), false},

		// Of variables with the same name the first one has the value; all those of a pattern must have it.
		{vars("a", 1, "a", 2), vars("a", 1), true},
		{vars("a", 1, "a", 2), vars("a", 2), false},
		{vars("b", 0, "a", 1, "a", 2), vars("a", 1, "a", 1), true},
		{vars("a", 1, "a", 2), vars("a", 1, "a", 2), false},
		{vars("a", 1), vars("a", 1, "a", 2), false},
		{vars("a", 2), vars("a", 1, "a", 2), false},

		// Lists of variables that are not proper.
		{vars("", 1), vars("", 1), true},
		{vars("", 1), vars("", 2), false},
		{vars(longName+"n", list(number(1))), vars(longName+"n", list(number(1))), true},
		{vars("a", list(number(1))), vars("a", list(number(1), number(2))), false},
		{vars("a", m("k")), vars("a", m("k")), true},
		{vars("a", m("k")), vars("a", m("j")), false},
		{vars("a", math.MaxInt), vars("a", math.MaxInt), true},
		{vars("a", math.MaxInt), vars("a", math.MinInt), false},
		{vars("a", api.Value{Kind: 6, Int: 1}), vars("a", api.Value{Kind: 6, Int: 2}), true}, // equal by P7.2
		{vars("a", api.Value{Kind: 6}), vars("a", api.Value{Kind: 7}), false},
		{named(20000), named(20000), true},
		{named(20000), named(20001), false},
		{named(20001), named(20000), true},
	} {
		if got := matrix.Matches(x.vars, x.pattern); got != x.want {
			t.Errorf("Matches(%.80s, %.80s) = %v", matrix.Suffix(x.vars), matrix.Suffix(x.pattern), got)
		}
	}
}

// P16.4
func TestSuffix(t *testing.T) {
	for _, x := range []struct {
		vars []api.Var
		want string
	}{
		{nil, ""},
		{vars("go", 1), "go=1"},
		{vars("go", 1, "os", "linux"), "go=1,os=\"linux\""},
		{vars("os", "linux", "go", 1), "os=\"linux\",go=1"}, // in their order
		{vars("a", null, "b", truth(true), "c", truth(false), "d", -5), "a=null,b=true,c=false,d=-5"},
		{vars("a", "x,y=1\"\n\xff"), "a=\"x,y=1\\\"\\n\\xff\""},
		{vars("a,b", "", "a,b", 2, "", 3), "a,b=\"\",a,b=2,=3"},
		{vars("a", list(number(1), str("b"))), "a=[1, \"b\"]"},
		{vars("a", math.MaxInt, "b", api.Value{Kind: 6}), "a=,b="}, // not valid: Show of them is empty
	} {
		if got := matrix.Suffix(x.vars); got != x.want {
			t.Errorf("Suffix(%v) = %s, want %s", x.vars, got, x.want)
		}
	}
}

// P16.3
func TestExpand(t *testing.T) {
	system, version := axis("os", str("linux"), str("mac")), axis("go", number(1), number(2))
	both := []api.Axis{system, version}
	for _, x := range []struct {
		name string
		m    api.Matrix
		want string
	}{
		{"nothing", api.Matrix{}, ""},
		{"an axis", api.Matrix{Axes: both[:1]}, `os="linux" os="mac"`},
		{"two axes", api.Matrix{Axes: both}, `go=1,os="linux" go=2,os="linux" go=1,os="mac" go=2,os="mac"`},
		{"the other way round", api.Matrix{Axes: []api.Axis{version, system}}, `go=1,os="linux" go=1,os="mac" go=2,os="linux" go=2,os="mac"`},
		{"values in their order", api.Matrix{Axes: []api.Axis{axis("a", number(2), str("b"), null, number(1), str("a"), truth(false))}}, `a=2 a="b" a=null a=1 a="a" a=false`},
		{"names in natural order", api.Matrix{Axes: []api.Axis{axis("v10", number(1)), axis("v9", number(2)), axis("v09", number(3)), axis("V", number(4))}}, `V=4,v9=2,v09=3,v10=1`},
		{"no values", api.Matrix{Axes: []api.Axis{system, axis("e"), version}}, ""},
		{"no values, and many combinations without", api.Matrix{Axes: []api.Axis{axis("a", numbers(1024)...), axis("b", numbers(1024)...), axis("c", numbers(1024)...), axis("d", numbers(1024)...), axis("f", numbers(1024)...), axis("g", numbers(1024)...), axis("h", numbers(1024)...), axis("e")}}, ""},

		{"excluded", api.Matrix{Axes: both, Exclude: [][]api.Var{vars("os", "mac", "go", 1)}}, `go=1,os="linux" go=2,os="linux" go=2,os="mac"`},
		{"excluded by one name", api.Matrix{Axes: both, Exclude: [][]api.Var{vars("os", "mac")}}, `go=1,os="linux" go=2,os="linux"`},
		{"excluded twice", api.Matrix{Axes: both, Exclude: [][]api.Var{vars("os", "mac"), vars("go", 2), vars("os", "mac", "go", 2)}}, `go=1,os="linux"`},
		{"all excluded", api.Matrix{Axes: both, Exclude: [][]api.Var{nil}}, ""},
		{"all excluded by values", api.Matrix{Axes: both, Exclude: [][]api.Var{vars("go", 1), vars("go", 2)}}, ""},
		{"another name", api.Matrix{Axes: both[1:], Exclude: [][]api.Var{vars("x", 1), vars("go", 1, "x", null), vars("go", "1"), vars("go", 3)}}, "go=1 go=2"},

		{"included", api.Matrix{Axes: both[1:], Include: [][]api.Var{vars("go", 3), vars("go", 0)}}, "go=1 go=2 go=3 go=0"},
		{"included without axes", api.Matrix{Include: [][]api.Var{vars("k", 1), vars("j", 1)}}, "k=1 j=1"},
		{"included, with no values", api.Matrix{Axes: []api.Axis{axis("e")}, Include: [][]api.Var{vars("k", 1)}}, "k=1"},
		{"included in natural order", api.Matrix{Include: [][]api.Var{vars("b", 1, "a10", 2, "a9", 3)}}, "a9=3,a10=2,b=1"},
		{"included before", api.Matrix{Axes: both, Include: [][]api.Var{vars("go", 2, "os", "linux"), vars("os", "mac", "go", 2), vars("os", "bsd", "go", 2)}}, `go=1,os="linux" go=2,os="linux" go=1,os="mac" go=2,os="mac" go=2,os="bsd"`},
		{"included twice", api.Matrix{Axes: both[1:], Include: [][]api.Var{vars("a", 1, "b", 2), vars("go", 1, "a", 1), vars("b", 2, "a", 1), vars("a", 1, "go", 1)}}, "go=1 go=2 a=1,b=2 a=1,go=1"},
		{"included with fewer or more names", api.Matrix{Axes: both, Include: [][]api.Var{vars("go", 1), vars("go", 1, "os", "linux", "x", 0), vars("go", 1, "os", "linux")}}, `go=1,os="linux" go=2,os="linux" go=1,os="mac" go=2,os="mac" go=1 go=1,os="linux",x=0`},
		{"included with other values", api.Matrix{Axes: both[1:], Include: [][]api.Var{vars("go", "1"), vars("go", null)}}, `go=1 go=2 go="1" go=null`},
		{"included with null or without", api.Matrix{Include: [][]api.Var{vars("a", 1, "b", null), vars("a", 1), vars("a", 1, "c", null), vars("c", null, "a", 1)}}, "a=1,b=null a=1 a=1,c=null"},
		{"included and excluded", api.Matrix{Axes: both[1:], Include: [][]api.Var{vars("go", 2), vars("go", 3)}, Exclude: [][]api.Var{vars("go", 2), vars("go", 3)}}, "go=1 go=2 go=3"},
	} {
		instances, err := matrix.Expand(x.m)
		if err != api.OK || shown(instances) != x.want {
			t.Errorf("%s: Expand = %s, %v, want %s", x.name, shown(instances), err, x.want)
		}
	}
	// An instance without variables is one, but only one.
	instances, err := matrix.Expand(api.Matrix{Axes: both[1:], Include: [][]api.Var{nil, {}}})
	if err != api.OK || len(instances) != 3 || len(instances[2]) != 0 {
		t.Errorf("an instance without variables: %v, %v", instances, err)
	}
}

// P16.3: as many combinations and instances as permitted, and one more.
func TestLimits(t *testing.T) {
	full := []api.Axis{axis("a", numbers(api.MaxInstances)...)}
	halves := make([]api.Axis, api.MaxAxes)
	for i := range halves {
		halves[i] = axis(fmt.Sprint("a", i), numbers(2)...)
	}
	above := slices.Clone(halves)
	above[5] = axis("a5", numbers(3)...)
	huge := make([]api.Axis, api.MaxAxes)
	for i := range huge {
		huge[i] = axis(fmt.Sprint("a", i), numbers(api.MaxList)...)
	}
	all := [][]api.Var{nil}
	var more [][]api.Var
	for i := range api.MaxList {
		more = append(more, vars("b", i))
	}
	for _, x := range []struct {
		name  string
		m     api.Matrix
		count int
		want  api.Errno
	}{
		{"an axis", api.Matrix{Axes: full}, 256, api.OK},
		{"an axis with one more", api.Matrix{Axes: []api.Axis{axis("a", numbers(api.MaxInstances+1)...)}}, 0, api.ErrLimit},
		{"as many values as may be", api.Matrix{Axes: huge[:1]}, 0, api.ErrLimit},
		{"all axes", api.Matrix{Axes: halves}, 256, api.OK},
		{"all axes with one value more", api.Matrix{Axes: above}, 0, api.ErrLimit},
		{"2^80 combinations", api.Matrix{Axes: huge}, 0, api.ErrLimit},
		{"2^64 combinations", api.Matrix{Axes: append(slices.Clone(huge[:6]), axis("b", numbers(16)...))}, 0, api.ErrLimit},
		{"2^70 combinations, all excluded", api.Matrix{Axes: huge[:7], Exclude: all}, 0, api.ErrLimit},
		{"one value in some axes", api.Matrix{Axes: []api.Axis{axis("a", numbers(16)...), axis("b", number(0)), axis("c", numbers(16)...), axis("d", number(0))}}, 256, api.OK},
		{"one too many, of which one is excluded", api.Matrix{Axes: []api.Axis{axis("a", numbers(257)...)}, Exclude: [][]api.Var{vars("a", 7)}}, 0, api.ErrLimit},
		{"too many, of which some are excluded", api.Matrix{Axes: []api.Axis{axis("a", numbers(129)...), axis("b", numbers(2)...)}, Exclude: [][]api.Var{vars("b", 1)}}, 0, api.ErrLimit},

		{"one more is included", api.Matrix{Axes: full, Include: more[:1]}, 0, api.ErrLimit},
		{"what is there is included", api.Matrix{Axes: full, Include: [][]api.Var{vars("a", 255), vars("a", 0)}}, 256, api.OK},
		{"one is excluded, and one included", api.Matrix{Axes: full, Include: more[:1], Exclude: [][]api.Var{vars("a", 7)}}, 256, api.OK},
		{"one is excluded, and two included", api.Matrix{Axes: full, Include: more[:2], Exclude: [][]api.Var{vars("a", 7)}}, 0, api.ErrLimit},
		{"one is excluded, and included again", api.Matrix{Axes: full, Include: [][]api.Var{vars("a", 7)}, Exclude: [][]api.Var{vars("a", 7)}}, 256, api.OK},
		{"only included", api.Matrix{Include: more[:256]}, 256, api.OK},
		{"only included, one more", api.Matrix{Include: more[:257]}, 0, api.ErrLimit},
		{"only included, many times", api.Matrix{Include: slices.Repeat(more[:256], 4)}, 256, api.OK},
		{"as many inclusions as may be", api.Matrix{Include: more}, 0, api.ErrLimit},
		{"as many exclusions as may be", api.Matrix{Axes: full, Exclude: more}, 256, api.OK},
	} {
		instances, err := matrix.Expand(x.m)
		if err != x.want || len(instances) != x.count {
			t.Errorf("%s: %d instances, %v, want %d, %v", x.name, len(instances), err, x.count, x.want)
		}
	}
}

// The definitions of the chapter.

func valueOf(vars []api.Var, name string) (api.Value, bool) {
	for _, v := range vars {
		if v.Name == name {
			return v.Value, true
		}
	}
	return null, false
}

func matches(vars, pattern []api.Var) bool {
	for _, p := range pattern {
		v, ok := valueOf(vars, p.Name)
		if !ok || value.Compare(v, p.Value) != 0 {
			return false
		}
	}
	return true
}

func agree(a, b []api.Var) bool { return matches(a, b) && matches(b, a) }

// combinations returns the combinations of axes: the i-th one is read from the digits of i, the last axis being the last digit.
func combinations(axes []api.Axis) [][]api.Var {
	count := min(len(axes), 1)
	for _, a := range axes {
		count *= len(a.Values)
	}
	all := make([][]api.Var, count)
	for i := range all {
		rest := i
		for k := range axes {
			a := axes[len(axes)-1-k]
			all[i] = append(all[i], api.Var{Name: a.Name, Value: a.Values[rest%len(a.Values)]})
			rest /= len(a.Values)
		}
	}
	return all
}

// define returns the instances of a valid matrix without too many combinations.
func define(m api.Matrix) [][]api.Var {
	var all [][]api.Var
	for _, c := range combinations(m.Axes) {
		if !slices.ContainsFunc(m.Exclude, func(pattern []api.Var) bool { return matches(c, pattern) }) {
			all = append(all, c)
		}
	}
	for _, include := range m.Include {
		if !slices.ContainsFunc(all, func(earlier []api.Var) bool { return agree(earlier, include) }) {
			all = append(all, include)
		}
	}
	return all
}

// some returns a proper list of variables that is found by chance.
func some(chance *rand.Rand) []api.Var {
	var all []api.Var
	for _, name := range []string{"a9", "a10", "b", "c"} {
		if chance.IntN(2) == 0 {
			all = append(all, api.Var{Name: name, Value: scalars[chance.IntN(4)]})
		}
	}
	chance.Shuffle(len(all), func(i, j int) { all[i], all[j] = all[j], all[i] })
	return all
}

// P16.2, P16.3, P16.5, P16.6: matrices that are found by chance.
func TestInstancesAreDefined(t *testing.T) {
	chance := rand.New(rand.NewPCG(16, 5))
	limited := 0
	for range 4000 {
		var m api.Matrix
		for _, name := range []string{"c", "a10", "a9"}[:chance.IntN(4)] {
			m.Axes = append(m.Axes, axis(name, scalars[:chance.IntN(len(scalars))]...))
		}
		for range chance.IntN(6) {
			m.Include = append(m.Include, some(chance))
		}
		for range chance.IntN(4) {
			m.Exclude = append(m.Exclude, some(chance))
		}
		instances, err := matrix.Expand(m)
		want := define(m)
		if len(combinations(m.Axes)) > api.MaxInstances || len(want) > api.MaxInstances {
			limited++
			want = nil
			if err != api.ErrLimit {
				t.Fatalf("Expand(%v) = %v", m, err)
			}
		} else if err != api.OK {
			t.Fatalf("Expand(%v) = %v", m, err)
		}
		if len(instances) != len(want) {
			t.Fatalf("Expand(%v) = %s, want %s", m, shown(instances), shown(want))
		}
		for i, x := range instances {
			names := make([]string, len(x))
			for k, v := range x {
				names[k] = v.Name
			}
			if len(x) != len(want[i]) || !agree(x, want[i]) || !ident.Ascending(names) {
				t.Fatalf("Expand(%v) = %s, want %s", m, shown(instances), shown(want))
			}
		}
		expectExact(t, m, instances)
		slices.Reverse(m.Exclude)
		if again, other := matrix.Expand(m); other != err || shown(again) != shown(instances) {
			t.Fatalf("the order of %v matters", m.Exclude)
		}
		m.Include, m.Exclude = nil, nil
		if whole, err := matrix.Expand(m); err == api.OK && len(whole) != len(combinations(m.Axes)) {
			t.Fatalf("%d instances of %v", len(whole), m)
		}
		a, b := some(chance), append(some(chance), some(chance)...)
		if matrix.Matches(a, b) != matches(a, b) || matrix.Matches(b, a) != matches(b, a) {
			t.Fatalf("Matches(%s, %s)", matrix.Suffix(a), matrix.Suffix(b))
		}
	}
	if limited < 50 {
		t.Errorf("only %d matrices exceed the limit", limited)
	}
}

// expectExact checks P16.5 for instances.
func expectExact(t *testing.T, m api.Matrix, instances [][]api.Var) {
	t.Helper()
	for i, x := range instances {
		included := slices.ContainsFunc(m.Include, func(include []api.Var) bool { return agree(x, include) })
		if slices.ContainsFunc(m.Exclude, func(pattern []api.Var) bool { return matches(x, pattern) }) && !included {
			t.Fatalf("%s is excluded", matrix.Suffix(x))
		}
		if slices.ContainsFunc(instances[:i], func(earlier []api.Var) bool { return agree(earlier, x) }) {
			t.Fatalf("%s occurs twice", matrix.Suffix(x))
		}
	}
}

// region is the memory of a list with its spare capacity.
type region struct{ from, to uintptr }

// regions appends the memory of all lists in a value.
func regions(all []region, v reflect.Value) []region {
	switch v.Kind() {
	case reflect.Struct:
		for i := range v.NumField() {
			all = regions(all, v.Field(i))
		}
	case reflect.Slice:
		if size := uintptr(v.Cap()) * v.Type().Elem().Size(); size > 0 {
			all = append(all, region{v.Pointer(), v.Pointer() + size})
		}
		for i := range v.Len() {
			all = regions(all, v.Index(i))
		}
	}
	return all
}

// R5
func TestMemory(t *testing.T) {
	roomy := api.Value{List: make([]api.Value, 0, 4), Keys: make([]string, 0, 4)}
	rows := make([][]api.Var, 0, 8)
	rows = append(rows, append(make([]api.Var, 0, 8), vars("z", 1, "b", roomy, "a", 2)...), vars("c", 1, "b", 2, "a", 3))
	m := api.Matrix{Axes: []api.Axis{axis("y", roomy, number(1)), axis("x", numbers(3)...), axis("w", numbers(3)...)}, Include: rows, Exclude: [][]api.Var{vars("y", 1, "x", 2)}}
	before := fmt.Sprint(m, m.Include[0][:8])
	instances, err := matrix.Expand(m)
	if err != api.OK || len(instances) != 17 {
		t.Fatalf("Expand = %s, %v", shown(instances), err)
	}
	own := regions(nil, reflect.ValueOf(instances))
	all := regions(own, reflect.ValueOf(m))
	for i, a := range own {
		for _, b := range all[i+1:] {
			if a.from < b.to && b.from < a.to {
				t.Fatal("lists share memory")
			}
		}
	}
	if fmt.Sprint(m, m.Include[0][:8]) != before {
		t.Error("Expand changes its argument")
	}
}
