package typing_test

import (
	"math"
	"slices"
	"strings"
	"testing"

	"pipeline/api"
	"pipeline/typing"
	"pipeline/value"
)

func simple(kind int) api.Type { return api.Type{Kind: kind} }

func of(kind int, elements ...api.Type) api.Type { return api.Type{Kind: kind, Elem: elements} }

// lists returns t in so many lists.
func lists(t api.Type, count int) api.Type {
	for range count {
		t = of(api.TList, t)
	}
	return t
}

// same reports whether two types are equal, where nil and empty lists are the same.
func same(a, b api.Type) bool { return a.Kind == b.Kind && slices.EqualFunc(a.Elem, b.Elem, same) }

func null() api.Value { return api.Value{} }

func number(n int) api.Value { return api.Value{Kind: api.VInt, Int: n} }

func str(s string) api.Value { return api.Value{Kind: api.VString, Str: s} }

func list(elements ...api.Value) api.Value { return api.Value{Kind: api.VList, List: elements} }

// dict returns a map with the keys a, b and so on.
func dict(elements ...api.Value) api.Value {
	v := api.Value{Kind: api.VMap, List: elements}
	for i := range elements {
		v.Keys = append(v.Keys, string(rune('a'+i)))
	}
	return v
}

// nested returns v in so many lists.
func nested(v api.Value, count int) api.Value {
	for range count {
		v = list(v)
	}
	return v
}

// texts are the texts of the types of at most so many levels.
func texts(levels int) []string {
	list := []string{"any", "null", "bool", "int", "string", "never"}
	if levels > 1 {
		for _, element := range texts(levels - 1) {
			list = append(list, "list("+element+")", "map("+element+")")
		}
	}
	return list
}

// types are the types of at most so many levels.
func types(levels int) []api.Type {
	list := []api.Type{simple(api.TAny), simple(api.TNull), simple(api.TBool), simple(api.TInt), simple(api.TString), simple(api.TNever)}
	if levels > 1 {
		for _, element := range types(levels - 1) {
			list = append(list, of(api.TList, element), of(api.TMap, element))
		}
	}
	return list
}

// values are values of at most so many levels, with lists and maps of at most two elements.
func values(levels int) []api.Value {
	all := []api.Value{null(), {Kind: api.VBool}, {Kind: api.VBool, Bool: true}, number(0), number(-7), str(""), str("int")}
	if levels > 1 {
		all = append(all, list(), dict())
	}
	if levels > 2 {
		for _, a := range values(levels - 1) {
			all = append(all, list(a), dict(a))
			for _, b := range values(min(levels-1, 2)) {
				all = append(all, list(a, b), dict(b, a))
			}
		}
	}
	return all
}

var invalid = []struct {
	name  string
	t     api.Type
	error api.Errno
}{
	{"kind 8", simple(8), api.ErrInvalid},
	{"kind -1", simple(-1), api.ErrInvalid},
	{"greatest kind", simple(math.MaxInt), api.ErrInvalid},
	{"least kind", simple(math.MinInt), api.ErrInvalid},
	{"unknown kind with an element", of(8, simple(api.TInt)), api.ErrInvalid},
	{"list without element", simple(api.TList), api.ErrInvalid},
	{"list with an empty Elem", api.Type{Kind: api.TList, Elem: []api.Type{}}, api.ErrInvalid},
	{"map without element", simple(api.TMap), api.ErrInvalid},
	{"list with two elements", of(api.TList, simple(api.TInt), simple(api.TInt)), api.ErrInvalid},
	{"map with two elements", of(api.TMap, simple(api.TInt), simple(api.TInt)), api.ErrInvalid},
	{"element", of(api.TList, simple(8)), api.ErrInvalid},
	{"element of element", of(api.TMap, of(api.TList, of(api.TAny, simple(api.TAny)))), api.ErrInvalid},
	{"deep", lists(simple(api.TInt), 16), api.ErrDepth},
	{"very deep", lists(simple(api.TInt), 60000), api.ErrDepth},
	{"depth before kind", lists(simple(8), 16), api.ErrDepth},
	{"depth before elements", lists(simple(api.TList), 16), api.ErrDepth},
	{"kind at the last level", lists(simple(8), 15), api.ErrInvalid},
	{"elements at the last level", lists(simple(api.TList), 15), api.ErrInvalid},
	{"elements before depth", of(api.TList, lists(simple(api.TInt), 16), simple(api.TInt)), api.ErrInvalid},
	{"elements of a simple type before depth", of(api.TInt, lists(simple(api.TInt), 16)), api.ErrInvalid},
}

// P8.1
func TestValid(t *testing.T) {
	for _, x := range append(types(4), lists(simple(api.TAny), 15), lists(of(api.TMap, simple(api.TNever)), 14), api.Type{Kind: api.TInt, Elem: []api.Type{}}) {
		if e := typing.Valid(x); e != api.OK {
			t.Errorf("Valid(%+v) = %v", x, e)
		}
	}
	for kind := range 8 {
		if kind != api.TList && kind != api.TMap {
			if e := typing.Valid(of(kind, simple(kind))); e != api.ErrInvalid {
				t.Errorf("Valid of kind %d with an element = %v", kind, e)
			}
		}
	}
	for _, x := range invalid {
		if e := typing.Valid(x.t); e != x.error {
			t.Errorf("Valid(%s) = %v, want %v", x.name, e, x.error)
		}
	}
}

var invalidValues = []api.Value{
	{Kind: 6}, {Kind: -1}, {Bool: true}, number(math.MaxInt), str(strings.Repeat("s", api.MaxString+1)),
	list(number(1), number(math.MaxInt)), {Kind: api.VMap, Keys: []string{"a"}}, nested(null(), 16), nested(list(), 15), nested(null(), 60000),
}

// P8.2
func TestOf(t *testing.T) {
	for _, x := range []struct {
		v    api.Value
		text string
	}{
		{null(), "null"},
		{api.Value{Kind: api.VBool}, "bool"},
		{api.Value{Kind: api.VBool, Bool: true}, "bool"},
		{number(0), "int"},
		{number(api.MaxNumber), "int"},
		{str(""), "string"},
		{list(), "list(never)"},
		{dict(), "map(never)"},
		{list(number(1), number(2)), "list(int)"},
		{list(number(1), str("a")), "list(any)"},
		{list(number(1), number(1), null()), "list(any)"},
		{list(null(), null()), "list(null)"},
		{dict(str("a"), str("b")), "map(string)"},
		{dict(str("a"), number(1)), "map(any)"},
		{list(list(), list(number(1)), list()), "list(list(int))"},
		{list(list(number(1)), list(str("a"))), "list(list(any))"},
		{list(list(number(1)), dict(number(1))), "list(any)"},
		{list(list(), dict()), "list(any)"},
		{list(list(), number(1)), "list(any)"},
		{list(dict(list()), dict(), dict(list(number(1)))), "list(map(list(int)))"},
		{list(list(list(number(1), null())), list(list(number(1)))), "list(list(list(any)))"},
		{nested(null(), 15), strings.Repeat("list(", 15) + "null" + strings.Repeat(")", 15)},
		{nested(list(), 14), strings.Repeat("list(", 15) + "never" + strings.Repeat(")", 15)},
	} {
		if got := typing.Show(typing.Of(x.v)); got != x.text {
			t.Errorf("Of(%s) = %s, want %s", value.Show(x.v), got, x.text)
		}
	}
	for i, v := range invalidValues {
		if got := typing.Of(v); !same(got, simple(api.TAny)) {
			t.Errorf("Of the invalid value %d = %+v", i, got)
		}
	}
}

// P8.2: Of is the definition, written with the join of DOC.md's functions.
func TestOfAgainstDefinition(t *testing.T) {
	var define func(v api.Value) api.Type
	define = func(v api.Value) api.Type {
		kinds := map[int]int{api.VNull: api.TNull, api.VBool: api.TBool, api.VInt: api.TInt, api.VString: api.TString, api.VList: api.TList, api.VMap: api.TMap}
		if v.Kind != api.VList && v.Kind != api.VMap {
			return simple(kinds[v.Kind])
		}
		element := simple(api.TNever)
		for _, x := range v.List {
			element = typing.Join(element, define(x))
		}
		return of(kinds[v.Kind], element)
	}
	for _, v := range values(4) {
		if got, want := typing.Of(v), define(v); !same(got, want) {
			t.Fatalf("Of(%s) = %s, want %s", value.Show(v), typing.Show(got), typing.Show(want))
		}
	}
}

// belongs reports whether a valid value has a valid type, which it tells from the elements and not from the type of the value.
func belongs(v api.Value, t api.Type) bool {
	switch t.Kind {
	case api.TAny:
		return true
	case api.TNull:
		return v.Kind == api.VNull
	case api.TBool:
		return v.Kind == api.VBool
	case api.TInt:
		return v.Kind == api.VInt
	case api.TString:
		return v.Kind == api.VString
	case api.TList, api.TMap:
		if v.Kind != map[int]int{api.TList: api.VList, api.TMap: api.VMap}[t.Kind] {
			return false
		}
		for _, element := range v.List {
			if !belongs(element, t.Elem[0]) {
				return false
			}
		}
		return true
	}
	return false
}

// P8.3 and P8.6: a list or a map fits a type exactly if each of its elements fits the element type.
func TestFits(t *testing.T) {
	for _, v := range values(4) {
		for _, x := range types(3) {
			if got, want := typing.Fits(v, x), belongs(v, x); got != want {
				t.Fatalf("Fits(%s, %s) = %v", value.Show(v), typing.Show(x), got)
			}
		}
	}
	deepest := lists(simple(api.TAny), 15)
	if !typing.Fits(nested(null(), 15), deepest) || !typing.Fits(nested(list(), 14), deepest) || typing.Fits(nested(null(), 14), deepest) {
		t.Error("Fits of the deepest values")
	}
}

// P8.3
func TestFitsOfInvalid(t *testing.T) {
	for i, v := range invalidValues {
		for _, x := range types(2) {
			if typing.Fits(v, x) {
				t.Errorf("the invalid value %d fits %s", i, typing.Show(x))
			}
		}
	}
	for _, x := range invalid {
		for _, v := range values(3) {
			if typing.Fits(v, x.t) {
				t.Errorf("%s fits %s", value.Show(v), x.name)
			}
		}
	}
}

// P8.4
func TestSubJoinMeet(t *testing.T) {
	for _, x := range []struct {
		a, b, join, meet string
		sub              bool
	}{
		{"int", "int", "int", "int", true},
		{"any", "any", "any", "any", true},
		{"never", "never", "never", "never", true},
		{"never", "any", "any", "never", true},
		{"any", "never", "any", "never", false},
		{"any", "int", "any", "int", false},
		{"int", "any", "any", "int", true},
		{"never", "null", "null", "never", true},
		{"null", "never", "null", "never", false},
		{"int", "string", "any", "never", false},
		{"int", "list(int)", "any", "never", false},
		{"list(int)", "list(string)", "list(any)", "list(never)", false},
		{"list(never)", "list(int)", "list(int)", "list(never)", true},
		{"list(never)", "never", "list(never)", "never", false},
		{"list(int)", "any", "any", "list(int)", true},
		{"list(int)", "list(any)", "list(any)", "list(int)", true},
		{"list(any)", "list(int)", "list(any)", "list(int)", false},
		{"list(int)", "map(int)", "any", "never", false},
		{"map(never)", "list(never)", "any", "never", false},
		{"map(list(never))", "map(list(bool))", "map(list(bool))", "map(list(never))", true},
		{"map(list(int))", "map(map(int))", "map(any)", "map(never)", false},
		{"map(map(list(int)))", "map(map(list(bool)))", "map(map(list(any)))", "map(map(list(never)))", false},
	} {
		a, e := typing.Parse(x.a)
		b, f := typing.Parse(x.b)
		join, meet, sub := typing.Show(typing.Join(a, b)), typing.Show(typing.Meet(a, b)), typing.Sub(a, b)
		if e != api.OK || f != api.OK || join != x.join || meet != x.meet || sub != x.sub {
			t.Errorf("of %s and %s: join %s, meet %s, sub %v, want %s, %s, %v", x.a, x.b, join, meet, sub, x.join, x.meet, x.sub)
		}
	}
}

// P8.4: of types of the most levels, and of invalid ones.
func TestSubJoinMeetOfDeepAndInvalid(t *testing.T) {
	a, b := lists(simple(api.TInt), 15), lists(simple(api.TBool), 15)
	if !same(typing.Join(a, b), lists(simple(api.TAny), 15)) || !same(typing.Meet(a, b), lists(simple(api.TNever), 15)) || typing.Sub(a, b) || !typing.Sub(a, a) {
		t.Error("wrong join, meet or sub of the deepest types")
	}
	for _, x := range invalid {
		for _, y := range append(types(2), x.t) {
			if typing.Sub(x.t, y) || typing.Sub(y, x.t) {
				t.Errorf("Sub of %s and %+v", x.name, y)
			}
			if !same(typing.Join(x.t, y), simple(api.TAny)) || !same(typing.Join(y, x.t), simple(api.TAny)) {
				t.Errorf("Join of %s and %+v", x.name, y)
			}
			if !same(typing.Meet(x.t, y), simple(api.TNever)) || !same(typing.Meet(y, x.t), simple(api.TNever)) {
				t.Errorf("Meet of %s and %+v", x.name, y)
			}
		}
	}
}

// P8.4: a is contained in b exactly if every value of a belongs to b.
func TestSubAgainstValues(t *testing.T) {
	all := values(4)
	set := func(x api.Type) []bool {
		has := make([]bool, len(all))
		for i, v := range all {
			has[i] = belongs(v, x)
		}
		return has
	}
	within := func(a, b []bool) bool {
		for i, has := range a {
			if has && !b[i] {
				return false
			}
		}
		return true
	}
	small := types(3)
	sets := make([][]bool, len(small))
	for i, x := range small {
		sets[i] = set(x)
	}
	for i, a := range small {
		for j, b := range small {
			if got, want := typing.Sub(a, b), within(sets[i], sets[j]); got != want {
				t.Errorf("Sub(%s, %s) = %v", typing.Show(a), typing.Show(b), got)
			}
		}
	}
}

// P8.6: Sub is a partial order with a least and a greatest type, and Join and Meet are the bounds.
func TestLattice(t *testing.T) {
	all := types(3)
	for _, a := range all {
		if !typing.Sub(a, a) || !typing.Sub(simple(api.TNever), a) || !typing.Sub(a, simple(api.TAny)) {
			t.Errorf("Sub of %s", typing.Show(a))
		}
		for _, b := range all {
			if typing.Sub(a, b) && typing.Sub(b, a) && !same(a, b) {
				t.Errorf("Sub of %s and %s in both directions", typing.Show(a), typing.Show(b))
			}
			checkBounds(t, all, a, b)
		}
	}
}

// checkBounds compares a with b and with all other types.
func checkBounds(t *testing.T, all []api.Type, a, b api.Type) {
	t.Helper()
	join, meet := typing.Join(a, b), typing.Meet(a, b)
	if typing.Valid(join) != api.OK || typing.Valid(meet) != api.OK || !same(join, typing.Join(b, a)) || !same(meet, typing.Meet(b, a)) {
		t.Errorf("Join and Meet of %s and %s depend on their order, or are not valid", typing.Show(a), typing.Show(b))
	}
	for _, c := range all {
		if typing.Sub(a, b) && typing.Sub(b, c) && !typing.Sub(a, c) {
			t.Errorf("Sub of %s, %s, %s is not transitive", typing.Show(a), typing.Show(b), typing.Show(c))
		}
		if above := typing.Sub(a, c) && typing.Sub(b, c); above != typing.Sub(join, c) {
			t.Errorf("Join of %s and %s is not their least upper bound", typing.Show(a), typing.Show(b))
		}
		if below := typing.Sub(c, a) && typing.Sub(c, b); below != typing.Sub(c, meet) {
			t.Errorf("Meet of %s and %s is not their greatest lower bound", typing.Show(a), typing.Show(b))
		}
	}
}

// P8.6
func TestTypeOfValidValueIsValid(t *testing.T) {
	for _, v := range append(values(4), nested(null(), 15), nested(list(), 14), nested(dict(), 14), nested(list(number(1), null()), 13)) {
		if x := typing.Of(v); typing.Valid(x) != api.OK || !typing.Fits(v, x) {
			t.Errorf("the type of %s is %+v", value.Show(v), x)
		}
	}
}

// P8.5
func TestShow(t *testing.T) {
	wanted := texts(4)
	for i, x := range types(4) {
		if got := typing.Show(x); got != wanted[i] {
			t.Errorf("Show(%+v) = %s, want %s", x, got, wanted[i])
		}
	}
	if got := typing.Show(lists(of(api.TMap, simple(api.TString)), 14)); got != strings.Repeat("list(", 14)+"map(string)"+strings.Repeat(")", 14) {
		t.Errorf("Show of the deepest type = %s", got)
	}
	for _, x := range invalid {
		if got := typing.Show(x.t); got != "" {
			t.Errorf("Show(%s) = %s", x.name, got)
		}
	}
}

// P8.5: of all texts of few levels, and of all strings that differ from them in one byte.
func TestParse(t *testing.T) {
	wanted := types(4)
	known := map[string]bool{}
	for i, s := range texts(4) {
		known[s] = true
		if got, e := typing.Parse(s); e != api.OK || !same(got, wanted[i]) {
			t.Errorf("Parse(%s) = %+v, %v", s, got, e)
		}
	}
	for s := range known {
		for _, changed := range changes(s) {
			got, e := typing.Parse(changed)
			if known[changed] && e == api.OK && typing.Show(got) == changed || !known[changed] && e == api.ErrSyntax && same(got, api.Type{}) {
				continue
			}
			t.Errorf("Parse(%q) = %+v, %v", changed, got, e)
		}
	}
}

// changes returns the strings that differ from s by one byte that is inserted, removed or replaced.
func changes(s string) []string {
	var changed []string
	for i := range len(s) + 1 {
		for _, c := range "() nI,\x00\xff" {
			changed = append(changed, s[:i]+string(c)+s[i:])
			if i < len(s) {
				changed = append(changed, s[:i]+string(c)+s[i+1:])
			}
		}
		if i < len(s) {
			changed = append(changed, s[:i]+s[i+1:])
		}
	}
	return changed
}

// P8.5
func TestParseErrors(t *testing.T) {
	deep := func(levels int, innermost, ends string) string {
		return strings.Repeat("list(", levels-1) + innermost + strings.Repeat(ends, levels-1)
	}
	for _, x := range []struct {
		s     string
		error api.Errno
	}{
		{"", api.ErrSyntax},
		{"Int", api.ErrSyntax},
		{"integer", api.ErrSyntax},
		{"number", api.ErrSyntax},
		{"int,int", api.ErrSyntax},
		{"int()", api.ErrSyntax},
		{"int(int)", api.ErrSyntax},
		{"any(int)", api.ErrSyntax},
		{"(int)", api.ErrSyntax},
		{"list", api.ErrSyntax},
		{"map", api.ErrSyntax},
		{"list()", api.ErrSyntax},
		{"list(", api.ErrSyntax},
		{"list)", api.ErrSyntax},
		{"list(int", api.ErrSyntax},
		{"list int)", api.ErrSyntax},
		{"list(int))", api.ErrSyntax},
		{"list( int)", api.ErrSyntax},
		{"list(int )", api.ErrSyntax},
		{"list (int)", api.ErrSyntax},
		{"list(int, int)", api.ErrSyntax},
		{"list(list)", api.ErrSyntax},
		{"list(map(list()))", api.ErrSyntax},
		{"list(int)\n", api.ErrSyntax},
		{"list(int)list(int)", api.ErrSyntax},
		{"list(int)(int)", api.ErrSyntax},
		{deep(16, "int", ")"), api.OK},
		{deep(17, "int", ")"), api.ErrDepth},
		{deep(680, "int", ")"), api.ErrDepth},
		{deep(17, "int", ""), api.ErrSyntax},
		{deep(17, "Int", ")"), api.ErrSyntax},
		{deep(17, "", ")"), api.ErrSyntax},
		{deep(17, "list", ")"), api.ErrSyntax},
		{deep(16, "map(int)", ")"), api.ErrDepth},
		{deep(681, "string", ")"), api.ErrDepth},       // 4086 bytes
		{deep(682, "never", ")") + " ", api.ErrSyntax}, // 4092 bytes
		{deep(682, "never", ")"), api.ErrDepth},        // 4091 bytes
		{deep(683, "null", ")"), api.ErrDepth},         // 4096 bytes
		{deep(683, "never", ")"), api.ErrTooLong},      // 4097 bytes
		{strings.Repeat("x", api.MaxString), api.ErrSyntax},
		{strings.Repeat("x", api.MaxString+1), api.ErrTooLong},
		{strings.Repeat("list(", 1<<20), api.ErrTooLong},
	} {
		got, e := typing.Parse(x.s)
		if e != x.error || e != api.OK && !same(got, api.Type{}) || e == api.OK && typing.Show(got) != x.s {
			t.Errorf("Parse(%.60q), %d bytes = %.60q, %v, want %v", x.s, len(x.s), typing.Show(got), e, x.error)
		}
	}
}

// overwrite changes all lists of a type.
func overwrite(t api.Type) {
	for i, element := range t.Elem {
		overwrite(element)
		t.Elem[i] = simple(99)
	}
}

// R5: no result shares memory with an argument or with itself.
func TestMemory(t *testing.T) {
	for _, a := range texts(3) {
		for _, b := range texts(3) {
			for _, bound := range []func(a, b api.Type) api.Type{typing.Join, typing.Meet} {
				x, _ := typing.Parse(a)
				y, _ := typing.Parse(b)
				overwrite(bound(x, y))
				if typing.Show(x) != a || typing.Show(y) != b {
					t.Fatalf("the bound of %s and %s shares memory with them", a, b)
				}
			}
		}
	}
}
