package value_test

import (
	"math"
	"math/rand/v2"
	"reflect"
	"slices"
	"strconv"
	"strings"
	"testing"

	"pipeline/api"
	"pipeline/ident"
	"pipeline/value"
)

var null = api.Value{}

func truth(b bool) api.Value { return api.Value{Kind: api.VBool, Bool: b} }

func number(n int) api.Value { return api.Value{Kind: api.VInt, Int: n} }

func str(s string) api.Value { return api.Value{Kind: api.VString, Str: s} }

func list(elements ...api.Value) api.Value { return api.Value{Kind: api.VList, List: elements} }

func dict(keys []string, elements ...api.Value) api.Value {
	return api.Value{Kind: api.VMap, Keys: keys, List: elements}
}

func keys(names ...string) []string { return names }

// numbered returns so many different names, ascending.
func numbered(count int) []string {
	names := make([]string, count)
	for i := range names {
		names[i] = "k" + strconv.Itoa(i)
	}
	return names
}

// nested returns v in so many lists.
func nested(v api.Value, lists int) api.Value {
	for range lists {
		v = list(v)
	}
	return v
}

var (
	longest = strings.Repeat("s", api.MaxString)
	tooLong = longest + "s"
	longKey = strings.Repeat("k", api.MaxName)
	full    = make([]api.Value, api.MaxList)
	tooFull = make([]api.Value, api.MaxList+1)
	kinds   = []api.Value{null, truth(true), number(1), str("s"), list(null), dict(keys("k"), null)}
)

// snapshot returns a copy of a value that shares no memory with it.
func snapshot(v api.Value) api.Value {
	v.Keys = append([]string(nil), v.Keys...)
	list := v.List
	v.List = nil
	for _, element := range list {
		v.List = append(v.List, snapshot(element))
	}
	return v
}

// overwrite changes all lists of a value, with their spare capacity.
func overwrite(v api.Value) {
	for _, element := range v.List {
		overwrite(element)
	}
	for i := range v.List[:cap(v.List)] {
		v.List[:cap(v.List)][i] = str("overwritten")
	}
	for i := range v.Keys[:cap(v.Keys)] {
		v.Keys[:cap(v.Keys)][i] = "overwritten"
	}
}

// same reports whether two values are equal in all fields, where nil and empty lists are the same.
func same(a, b api.Value) bool {
	return a.Kind == b.Kind && a.Bool == b.Bool && a.Int == b.Int && a.Str == b.Str &&
		slices.Equal(a.Keys, b.Keys) && slices.EqualFunc(a.List, b.List, same)
}

var valid = []api.Value{
	null, truth(false), truth(true),
	number(0), number(1), number(-1), number(api.MaxNumber), number(-api.MaxNumber),
	str(""), str("a"), str("\x00\xff\n"), str(longest),
	list(), list(null), list(full...), {Kind: api.VList, List: []api.Value{}, Keys: []string{}},
	dict(nil), dict([]string{}), dict(keys("a"), null), dict(keys(longKey), null),
	dict(keys("\x00", "\xff"), null, null), dict(keys(" "), null), dict(keys("A b/c\n"), null),
	dict(keys("k2", "k10"), number(1), number(2)), dict(keys("k1", "k01"), null, null),
	dict(numbered(api.MaxList), full...),
	{Kind: api.VNull, List: []api.Value{}, Keys: []string{}},
	nested(null, 15), nested(list(), 14), nested(dict(nil), 14), nested(dict(keys("a"), null), 14),
	list(number(api.MaxNumber), str(longest), dict(keys("a", "b"), list(), dict(nil))),
}

var invalid = []struct {
	name  string
	v     api.Value
	error api.Errno
}{
	{"kind 6", api.Value{Kind: 6}, api.ErrInvalid},
	{"kind -1", api.Value{Kind: -1}, api.ErrInvalid},
	{"greatest kind", api.Value{Kind: math.MaxInt}, api.ErrInvalid},
	{"least kind", api.Value{Kind: math.MinInt}, api.ErrInvalid},
	{"number above", number(api.MaxNumber + 1), api.ErrRange},
	{"number below", number(-api.MaxNumber - 1), api.ErrRange},
	{"greatest number", number(math.MaxInt), api.ErrRange},
	{"least number", number(math.MinInt), api.ErrRange},
	{"long string", str(tooLong), api.ErrTooLong},
	{"long list", list(tooFull...), api.ErrTooLong},
	{"long map", dict(numbered(api.MaxList+1), tooFull...), api.ErrTooLong},
	{"only keys long", dict(numbered(api.MaxList+1), null), api.ErrTooLong},
	{"only elements long", dict(keys("a"), tooFull...), api.ErrTooLong},
	{"fewer keys", dict(keys("a"), null, null), api.ErrInvalid},
	{"more keys", dict(keys("a", "b"), null), api.ErrInvalid},
	{"no keys", dict(nil, null), api.ErrInvalid},
	{"no elements", dict(keys("a")), api.ErrInvalid},
	{"empty key", dict(keys(""), null), api.ErrInvalid},
	{"long key", dict(keys(longKey+"k"), null), api.ErrInvalid},
	{"equal keys", dict(keys("a", "a"), null, null), api.ErrInvalid},
	{"keys out of order", dict(keys("b", "a"), null, null), api.ErrInvalid},
	{"keys in the order of bytes", dict(keys("k10", "k2"), null, null), api.ErrInvalid},
	{"last key out of order", dict(keys("a", "c", "b"), null, null, null), api.ErrInvalid},
	{"last key long", dict(keys("a", longKey+"k"), null, null), api.ErrInvalid},
	{"deep", nested(null, 16), api.ErrDepth},
	{"deep empty list", nested(list(), 15), api.ErrDepth},
	{"deep empty map", nested(dict(nil), 15), api.ErrDepth},
	{"deep full map", nested(dict(keys("a"), null), 15), api.ErrDepth},
	{"very deep", nested(null, 10000), api.ErrDepth},

	// Which error comes first of one value.
	{"depth before kind", nested(api.Value{Kind: 6}, 16), api.ErrDepth},
	{"depth before range", nested(number(math.MaxInt), 16), api.ErrDepth},
	{"depth before length", nested(str(tooLong), 16), api.ErrDepth},
	{"kind before range", api.Value{Kind: 6, Int: math.MaxInt}, api.ErrInvalid},
	{"kind before length", api.Value{Kind: 6, Str: tooLong}, api.ErrInvalid},
	{"other field before range", api.Value{Kind: api.VInt, Int: math.MaxInt, Bool: true}, api.ErrInvalid},
	{"other field before length", api.Value{Kind: api.VString, Str: tooLong, Int: 1}, api.ErrInvalid},
	{"number of another kind", api.Value{Kind: api.VString, Int: math.MaxInt}, api.ErrInvalid},
	{"string of another kind", api.Value{Kind: api.VInt, Str: tooLong}, api.ErrInvalid},
	{"length before keys", dict(make([]string, api.MaxList+1), null), api.ErrTooLong},
	{"kind at the last level", nested(api.Value{Kind: 6}, 15), api.ErrInvalid},
	{"range at the last level", nested(number(math.MaxInt), 15), api.ErrRange},
	{"other field before empty at the last level", nested(api.Value{Kind: api.VList, Bool: true}, 15), api.ErrInvalid},
	{"keys before empty at the last level", nested(dict(keys("a")), 15), api.ErrInvalid},
	{"length before empty at the last level", nested(dict(numbered(api.MaxList+1)), 15), api.ErrTooLong},

	// Which error comes first of several elements.
	{"first element", list(number(math.MaxInt), api.Value{Kind: 6}), api.ErrRange},
	{"first element with its elements", list(list(null, list(str(tooLong))), number(math.MaxInt)), api.ErrTooLong},
	{"after an element with elements", list(list(null), number(math.MaxInt), str(tooLong)), api.ErrRange},
	{"depth of the first element", list(nested(null, 15), api.Value{Kind: 6}), api.ErrDepth},
	{"before the depth of the last element", list(api.Value{Kind: 6}, nested(null, 15)), api.ErrInvalid},
	{"list before its elements", list(append([]api.Value{{Kind: 6}}, full...)...), api.ErrTooLong},
	{"map before its elements", dict(keys("b", "a"), number(math.MaxInt), null), api.ErrInvalid},
	{"other field before elements", api.Value{Kind: api.VList, Int: 1, List: []api.Value{number(math.MaxInt)}}, api.ErrInvalid},
	{"element of a map", dict(keys("a", "b"), null, number(math.MaxInt)), api.ErrRange},
	{"elements of a scalar", api.Value{Kind: api.VInt, List: []api.Value{number(math.MaxInt)}}, api.ErrInvalid},
}

// P7.1
func TestValid(t *testing.T) {
	for i, v := range valid {
		if e := value.Valid(v); e != api.OK {
			t.Errorf("Valid of the value %d = %v", i, e)
		}
	}
	for _, x := range invalid {
		if e := value.Valid(x.v); e != x.error {
			t.Errorf("Valid(%s) = %v, want %v", x.name, e, x.error)
		}
	}
}

// P7.1: each field in each kind that does not use it.
func TestValidOfOtherFields(t *testing.T) {
	fields := map[string]func(v *api.Value){
		"Bool": func(v *api.Value) { v.Bool = true },
		"Int":  func(v *api.Value) { v.Int = -1 },
		"Str":  func(v *api.Value) { v.Str = "\x00" },
		"List": func(v *api.Value) { v.List = []api.Value{null} },
		"Keys": func(v *api.Value) { v.Keys = []string{"k"} },
	}
	used := []string{"", "Bool", "Int", "Str", "List", "List Keys"}
	for kind, v := range kinds {
		for field, set := range fields {
			changed := v
			set(&changed)
			want := api.ErrInvalid
			if strings.Contains(used[kind], field) {
				want = api.OK
			}
			if e := value.Valid(changed); e != want {
				t.Errorf("Valid of kind %d with %s = %v, want %v", kind, field, e, want)
			}
		}
	}
}

// levels returns the levels of a value, as the chapter defines them.
func levels(v api.Value) int {
	most := 1
	if v.Kind == api.VList || v.Kind == api.VMap {
		most = 2
	}
	for _, element := range v.List {
		most = max(most, 1+levels(element))
	}
	return most
}

// shaped reports whether a value is valid but for its levels, as the chapter defines it.
func shaped(v api.Value) bool {
	only := api.Value{Kind: v.Kind}
	ok := false
	switch v.Kind {
	case api.VNull:
		ok = true
	case api.VBool:
		only.Bool, ok = v.Bool, true
	case api.VInt:
		only.Int, ok = v.Int, -api.MaxNumber <= v.Int && v.Int <= api.MaxNumber
	case api.VString:
		only.Str, ok = v.Str, len(v.Str) <= api.MaxString
	case api.VList:
		only.List, ok = v.List, len(v.List) <= api.MaxList
	case api.VMap:
		only.List, only.Keys, ok = v.List, v.Keys, len(v.List) <= api.MaxList && len(v.Keys) == len(v.List)
		for i, key := range v.Keys {
			ok = ok && 1 <= len(key) && len(key) <= api.MaxName && (i == 0 || ident.Compare(v.Keys[i-1], key) < 0)
		}
	}
	for _, element := range v.List {
		ok = ok && shaped(element)
	}
	return ok && same(v, only)
}

// generator makes random values; faulty ones have a field that is wrong here and there.
type generator struct {
	*rand.Rand
	faulty bool
}

func (g generator) fault() bool { return g.faulty && g.IntN(12) == 0 }

func (g generator) text() string {
	const bytes = "ab019/\x00\n\"\\\xff "
	s := make([]byte, g.IntN(4))
	for i := range s {
		s[i] = bytes[g.IntN(len(bytes))]
	}
	return string(s)
}

func (g generator) value(most int) api.Value {
	v := api.Value{Kind: g.IntN(6)}
	if most <= 2 && !g.fault() {
		v.Kind = g.IntN(4)
	}
	if g.fault() {
		v.Kind = g.IntN(9) - 1
	}
	switch v.Kind {
	case api.VBool:
		v.Bool = g.IntN(2) == 0
	case api.VInt:
		v.Int = []int{0, 1, -1, g.IntN(1000), api.MaxNumber, -api.MaxNumber}[g.IntN(6)]
	case api.VString:
		v.Str = g.text()
	case api.VList, api.VMap:
		for range g.IntN(4) {
			v.List = append(v.List, g.value(most-1))
		}
	}
	if v.Kind == api.VMap {
		v.Keys = g.keys(len(v.List))
	}
	if g.fault() {
		g.spoil(&v)
	}
	return v
}

func (g generator) keys(count int) []string {
	seen := map[string]bool{}
	for len(seen) < count {
		if s := g.text(); s != "" {
			seen[s] = true
		}
	}
	var names []string
	for s := range seen {
		names = append(names, s)
	}
	return ident.Sorted(names)
}

func (g generator) spoil(v *api.Value) {
	switch g.IntN(5) {
	case 0:
		v.Bool = !v.Bool
	case 1:
		v.Int = api.MaxNumber + g.IntN(2)
	case 2:
		v.Str = strings.Repeat("x", api.MaxString+g.IntN(2))
	case 3:
		v.List = append(v.List, g.value(2))
	case 4:
		v.Keys = append(v.Keys, g.text())
	}
}

func random(seed uint64, faulty bool) generator {
	return generator{rand.New(rand.NewPCG(seed, 7)), faulty}
}

// P7.1: valid is what the definition says.
func TestValidAgainstDefinition(t *testing.T) {
	g := random(1, true)
	count := map[bool]int{}
	for range 100000 {
		v := nested(g.value(4), g.IntN(15))
		want := shaped(v) && levels(v) <= api.MaxDepth
		if got := value.Valid(v) == api.OK; got != want {
			t.Fatalf("Valid(%+v) = %v, want %v", v, got, want)
		}
		count[want]++
	}
	if count[true] < 1000 || count[false] < 1000 {
		t.Errorf("the values are not various: %v", count)
	}
}

// ordered are values in their order; those of one group are the same.
var ordered = [][]api.Value{
	{{Kind: math.MinInt}, {Kind: math.MinInt, Str: "a"}},
	{{Kind: -1}, {Kind: -1, Int: 5}, {Kind: -1, List: []api.Value{null}}},
	{null, {Kind: api.VNull, Bool: true}, {Kind: api.VNull, Str: "a", Keys: keys("a")}},
	{truth(false), {Kind: api.VBool, Int: 3}},
	{truth(true), {Kind: api.VBool, Bool: true, Int: -3}},
	{number(math.MinInt)},
	{number(-api.MaxNumber)},
	{number(-10)},
	{number(-9)},
	{number(0), {Kind: api.VInt, Bool: true, Str: "b"}},
	{number(9)},
	{number(10)},
	{number(math.MaxInt)},
	{str(""), {Kind: api.VString, Int: 1}},
	{str("\x00")},
	{str("A")},
	{str("a")},
	{str("a\x00")},
	{str("a10"), {Kind: api.VString, Str: "a10", List: []api.Value{null}}},
	{str("a2")},
	{str("ab")},
	{str("b")},
	{str("\xff")},
	{list(), {Kind: api.VList, List: []api.Value{}, Keys: keys("a")}},
	{list(null)},
	{list(null, null)},
	{list(number(1))},
	{list(number(1), null)},
	{list(number(1), null, null)},
	{list(number(1), str("z"))},
	{list(number(2))},
	{list(list())},
	{list(list(null), null)},
	{list(api.Value{Kind: 6}), list(api.Value{Kind: 6, Bool: true})},
	{dict(nil)},
	{dict(nil, number(1))},
	{dict(nil, number(1), number(0))},
	{dict(keys(""), null)},
	{dict(keys("a"))},
	{dict(keys("a"), number(1)), {Kind: api.VMap, Int: 9, Keys: keys("a"), List: []api.Value{number(1)}}},
	{dict(keys("a"), number(2))},
	{dict(keys("a"), number(2), null)},
	{dict(keys("a", "b"), number(1), number(9))},
	{dict(keys("a", "b"), number(2), number(0))},
	{dict(keys("a", "c"), number(1), number(1))},
	{dict(keys("b", "a"), null, null)},
	{dict(keys("k2"), str("z"))},
	{dict(keys("k2", "a"), null, null)},
	{dict(keys("k10"), null)},
	{dict(keys("k010"), null)},
	{{Kind: 6}, {Kind: 6, Bool: true, Int: 1, Str: "a", List: full, Keys: keys("a")}},
	{{Kind: math.MaxInt}},
}

func checkOrder(t *testing.T, a, b api.Value, want int) {
	t.Helper()
	if got := value.Compare(a, b); got != want {
		t.Errorf("Compare(%+v, %+v) = %d, want %d", a, b, got, want)
	}
	if got := value.Equal(a, b); got != (want == 0) {
		t.Errorf("Equal(%+v, %+v) = %v", a, b, got)
	}
}

// P7.2
func TestCompare(t *testing.T) {
	for i, group := range ordered {
		for j, other := range ordered {
			want := 0
			if i != j {
				want = (i - j) / max(i-j, j-i)
			}
			for _, a := range group {
				for _, b := range other {
					checkOrder(t, a, b, want)
				}
			}
		}
	}
}

// P7.2: values with many levels are compared to the end.
func TestCompareOfDeepValues(t *testing.T) {
	const lists = 60000
	checkOrder(t, nested(number(1), lists), nested(number(1), lists), 0)
	checkOrder(t, nested(number(1), lists), nested(number(2), lists), -1)
	checkOrder(t, nested(list(), lists), nested(null, lists), 1)
}

// P7.7: a total order.
func TestCompareIsTotal(t *testing.T) {
	g := random(2, true)
	for range 300 {
		values := make([]api.Value, 12)
		for i := range values {
			values[i] = g.value(3)
		}
		slices.SortFunc(values, value.Compare)
		for i, a := range values {
			for j, b := range values {
				got := value.Compare(a, b)
				if i <= j && got > 0 || i >= j && got < 0 {
					t.Fatalf("Compare(%+v, %+v) = %d", a, b, got)
				}
			}
		}
	}
}

var shown = []struct {
	v       api.Value
	literal string
}{
	{null, "null"},
	{truth(true), "true"},
	{truth(false), "false"},
	{number(0), "0"},
	{number(-5), "-5"},
	{number(api.MaxNumber), "9007199254740992"},
	{number(-api.MaxNumber), "-9007199254740992"},
	{str(""), `""`},
	{str("a b"), `"a b"`},
	{str(`"\`), `"\"\\"`},
	{str("\n\t"), `"\n\t"`},
	{str("\x00\r\x1f !~\x7f\x80\xff"), `"\x00\x0d\x1f !~\x7f\x80\xff"`},
	{str("é€"), `"\xc3\xa9\xe2\x82\xac"`},
	{str("${'`/"), "\"${'`/\""},
	{list(), "[]"},
	{list(null), "[null]"},
	{list(number(1), str("a"), list()), `[1, "a", []]`},
	{nested(null, 15), strings.Repeat("[", 15) + "null" + strings.Repeat("]", 15)},
	{dict(nil), "{}"},
	{dict(keys("a"), null), `{"a": null}`},
	{dict(keys("k2", "k10"), str("a"), number(1)), `{"k2": "a", "k10": 1}`},
	{dict(keys("\n", "\""), dict(nil), list(dict(keys("x"), truth(true)))), `{"\n": {}, "\"": [{"x": true}]}`},
	{str(strings.Repeat("\xff", api.MaxString)), `"` + strings.Repeat(`\xff`, api.MaxString) + `"`},
}

// P7.3
func TestShow(t *testing.T) {
	for _, x := range shown {
		if got := value.Show(x.v); got != x.literal {
			t.Errorf("Show = %.80s, want %.80s", got, x.literal)
		}
	}
	for _, x := range invalid {
		if got := value.Show(x.v); got != "" {
			t.Errorf("Show(%s) = %.80q", x.name, got)
		}
	}
}

// P7.3: Go reads the same string from a literal, and only the named bytes stand in it as they are or have a short form.
func TestShowOfEveryByte(t *testing.T) {
	for c := range 256 {
		literal := value.Show(str(string([]byte{byte(c)})))
		length := len(`"\xff"`)
		switch {
		case strings.ContainsRune("\"\\\n\t", rune(c)):
			length = len(`"\n"`)
		case c >= ' ' && c <= '~':
			length = len(`"a"`)
		}
		s, e := strconv.Unquote(literal)
		if e != nil || s != string([]byte{byte(c)}) || len(literal) != length || literal != strings.ToLower(literal) && (c < 'A' || c > 'Z') {
			t.Errorf("Show of the byte %d = %s", c, literal)
		}
	}
}

// P7.7: only equal values have equal literals.
func TestShowTellsValuesApart(t *testing.T) {
	g := random(3, false)
	found := map[string]api.Value{}
	for range 30000 {
		v := g.value(4)
		literal := value.Show(v)
		if literal == "" {
			t.Fatalf("%+v has no literal", v)
		}
		if other, ok := found[literal]; ok && !value.Equal(v, other) {
			t.Fatalf("the literal %s stands for %+v and %+v", literal, v, other)
		}
		found[literal] = v
	}
	for a, v := range found {
		if !value.Equal(v, found[a]) || value.Show(snapshot(v)) != a {
			t.Fatalf("the literal of %+v is not always %s", v, a)
		}
	}
}

func vars(names []string, v api.Value) []api.Var {
	var list []api.Var
	for _, name := range names {
		list = append(list, api.Var{Name: name, Value: v})
	}
	return list
}

// P7.4
func TestMap(t *testing.T) {
	for _, x := range []struct {
		vars    []api.Var
		literal string
	}{
		{nil, "{}"},
		{[]api.Var{}, "{}"},
		{[]api.Var{{Name: "k10", Value: number(1)}, {Name: "k2", Value: str("a")}}, `{"k2": "a", "k10": 1}`},
		{[]api.Var{{Name: "c", Value: list()}, {Name: "b"}, {Name: "a", Value: dict(keys("x"), null)}}, `{"a": {"x": null}, "b": null, "c": []}`},
		{[]api.Var{{Name: "\xff"}, {Name: "\x00"}, {Name: longKey}}, `{"\x00": null, "` + longKey + `": null, "\xff": null}`},
		{[]api.Var{{Name: "01"}, {Name: "1"}}, `{"1": null, "01": null}`},
		{vars(keys("a"), nested(null, 14)), `{"a": [[[[[[[[[[[[[[null]]]]]]]]]]]]]]}`},
		{vars(keys("a"), nested(list(), 13)), `{"a": [[[[[[[[[[[[[[]]]]]]]]]]]]]]}`},
	} {
		m, e := value.Map(x.vars)
		if e != api.OK || value.Show(m) != x.literal {
			t.Errorf("Map(%v) = %s, %v, want %s", x.vars, value.Show(m), e, x.literal)
		}
	}
	m, e := value.Map(vars(numbered(api.MaxList), null))
	if e != api.OK || !same(m, dict(numbered(api.MaxList), full...)) {
		t.Errorf("Map of the most vars: %v", e)
	}
}

// P7.4
func TestMapErrors(t *testing.T) {
	for _, x := range []struct {
		name  string
		vars  []api.Var
		error api.Errno
	}{
		{"too many", vars(numbered(api.MaxList+1), null), api.ErrTooLong},
		{"too many and all wrong", make([]api.Var, api.MaxList+1), api.ErrTooLong},
		{"empty name", vars(keys(""), null), api.ErrInvalid},
		{"long name", vars(keys(longKey+"k"), null), api.ErrInvalid},
		{"deep", vars(keys("a"), nested(null, 15)), api.ErrDepth},
		{"deep empty list", vars(keys("a"), nested(list(), 14)), api.ErrDepth},
		{"deep empty map", vars(keys("a"), nested(dict(nil), 14)), api.ErrDepth},
		{"twice", vars(keys("a", "a"), null), api.ErrExists},
		{"twice, not in a row", vars(keys("a", "b", "c", "a"), null), api.ErrExists},
		{"name before value", []api.Var{{Name: "", Value: number(math.MaxInt)}}, api.ErrInvalid},
		{"value before twice", []api.Var{{Name: "a"}, {Name: "a", Value: number(math.MaxInt)}}, api.ErrRange},
		{"depth before twice", []api.Var{{Name: "a"}, {Name: "a", Value: nested(null, 15)}}, api.ErrDepth},
		{"value before depth", vars(keys("a"), list(nested(null, 14), number(math.MaxInt))), api.ErrRange},
		{"value before empty depth", vars(keys("a"), list(nested(list(), 13), number(math.MaxInt))), api.ErrRange},
		{"first var: twice", []api.Var{{Name: "a"}, {Name: "a"}, {Name: ""}}, api.ErrExists},
		{"first var: name", []api.Var{{Name: "a"}, {Name: ""}, {Name: "a"}}, api.ErrInvalid},
		{"first var: value", []api.Var{{Name: "b", Value: str(tooLong)}, {Name: ""}}, api.ErrTooLong},
		{"first var: depth", []api.Var{{Name: "b", Value: nested(null, 15)}, {Name: ""}}, api.ErrDepth},
		{"first var before the least name", []api.Var{{Name: "b", Value: str(tooLong)}, {Name: "a", Value: number(math.MaxInt)}}, api.ErrTooLong},
	} {
		if m, e := value.Map(x.vars); e != x.error || !same(m, null) {
			t.Errorf("Map(%s) = %+v, %v, want %v", x.name, m, e, x.error)
		}
	}
	for _, x := range invalid {
		if m, e := value.Map(append(vars(keys("b"), null), vars(keys("a"), x.v)...)); e != x.error || !same(m, null) {
			t.Errorf("Map with %s = %+v, %v, want %v", x.name, m, e, x.error)
		}
	}
}

// P7.5
func TestVars(t *testing.T) {
	v := dict(keys("k2", "k10"), str("a"), list(number(1)))
	l, e := value.Vars(v)
	if want := []api.Var{{Name: "k2", Value: str("a")}, {Name: "k10", Value: list(number(1))}}; e != api.OK || !reflect.DeepEqual(l, want) {
		t.Errorf("Vars = %+v, %v", l, e)
	}
	if l, e := value.Vars(dict(nil)); e != api.OK || len(l) != 0 {
		t.Errorf("Vars of an empty map = %+v, %v", l, e)
	}
	for _, v := range valid {
		if l, e := value.Vars(v); v.Kind != api.VMap && (e != api.ErrType || len(l) != 0) {
			t.Errorf("Vars of kind %d = %+v, %v", v.Kind, l, e)
		}
	}
	for _, x := range invalid {
		if l, e := value.Vars(x.v); e != x.error || len(l) != 0 {
			t.Errorf("Vars(%s) = %+v, %v, want %v", x.name, l, e, x.error)
		}
	}
}

// P7.5
func TestGet(t *testing.T) {
	for _, x := range []struct {
		v    api.Value
		key  string
		want api.Value
		ok   bool
	}{
		{dict(keys("a", "b"), number(1), list(null)), "a", number(1), true},
		{dict(keys("a", "b"), number(1), list(null)), "b", list(null), true},
		{dict(keys("a"), null), "a", null, true},
		{dict(keys("a"), number(1)), "", null, false},
		{dict(keys("a"), number(1)), "A", null, false},
		{dict(keys("a"), number(1)), "ab", null, false},
		{dict(keys("1"), number(1)), "01", null, false},
		{dict(nil), "a", null, false},
		// Maps that are not valid.
		{dict(keys("a", "a"), number(1), number(2)), "a", number(1), true},
		{dict(keys("b", "a"), number(1), number(2)), "a", number(2), true},
		{dict(keys("a", "b"), number(1)), "a", number(1), true},
		{dict(keys("a", "b"), number(1)), "b", null, false},
		{dict(keys("a")), "a", null, false},
		{dict(nil, number(1)), "", null, false},
		{dict(keys(""), number(1)), "", number(1), true},
		{dict(keys(longKey+"k"), number(1)), longKey + "k", number(1), true},
		{dict(keys("a"), number(math.MaxInt)), "a", number(math.MaxInt), true},
		{api.Value{Kind: api.VMap, Bool: true, Keys: keys("a"), List: []api.Value{{Kind: 9, Str: "s"}}}, "a", api.Value{Kind: 9, Str: "s"}, true},
		{dict(keys("a"), api.Value{Kind: 2, Keys: keys("x"), List: []api.Value{null}}), "a", api.Value{Kind: 2, Keys: keys("x"), List: []api.Value{null}}, true},
		// What is not a map.
		{api.Value{Kind: api.VList, Keys: keys("a"), List: []api.Value{number(1)}}, "a", null, false},
		{api.Value{Kind: 6, Keys: keys("a"), List: []api.Value{number(1)}}, "a", null, false},
		{api.Value{Keys: keys("a"), List: []api.Value{number(1)}}, "a", null, false},
		{null, "a", null, false},
	} {
		if got, ok := value.Get(x.v, x.key); ok != x.ok || !same(got, x.want) {
			t.Errorf("Get(%+v, %q) = %+v, %v, want %+v, %v", x.v, x.key, got, ok, x.want, x.ok)
		}
	}
}

// P7.6
func TestText(t *testing.T) {
	for _, v := range valid {
		want, wantE := value.Show(v), api.OK
		switch v.Kind {
		case api.VNull:
			want = ""
		case api.VString:
			want = v.Str
		case api.VList, api.VMap:
			want, wantE = "", api.ErrType
		}
		if s, e := value.Text(v); s != want || e != wantE {
			t.Errorf("Text(%+v) = %q, %v", v, s, e)
		}
	}
	for _, x := range invalid {
		want := x.error
		if x.v.Kind == api.VList || x.v.Kind == api.VMap {
			want = api.ErrType
		}
		if s, e := value.Text(x.v); s != "" || e != want {
			t.Errorf("Text(%s) = %q, %v, want %v", x.name, s, e, want)
		}
	}
	if s, e := value.Text(number(-5)); s != "-5" || e != api.OK {
		t.Errorf("Text(-5) = %q, %v", s, e)
	}
}

// P7.7: Map does not depend on the order of the vars, and Map and Vars are inverses.
func TestMapAndVars(t *testing.T) {
	g := random(4, false)
	for range 5000 {
		var list []api.Var
		for _, name := range g.keys(g.IntN(6)) {
			list = append(list, api.Var{Name: name, Value: g.value(4)})
		}
		m, e := value.Map(list)
		if e != api.OK || value.Valid(m) != api.OK {
			t.Fatalf("Map(%+v) = %+v, %v", list, m, e)
		}
		back, e := value.Vars(m)
		if e != api.OK || !slices.EqualFunc(back, list, func(a, b api.Var) bool { return a.Name == b.Name && same(a.Value, b.Value) }) {
			t.Fatalf("Vars(Map(%+v)) = %+v, %v", list, back, e)
		}
		g.Shuffle(len(list), func(i, j int) { list[i], list[j] = list[j], list[i] })
		if other, e := value.Map(list); e != api.OK || !same(other, m) {
			t.Fatalf("Map(%+v) = %+v, %v, want %+v", list, other, e, m)
		}
		for _, v := range list {
			if got, ok := value.Get(m, v.Name); !ok || !same(got, v.Value) {
				t.Fatalf("Get(%+v, %q) = %+v, %v", m, v.Name, got, ok)
			}
		}
	}
}

// R5: no function changes its arguments, and no result shares memory with them or with itself.
func TestMemory(t *testing.T) {
	shared := list(number(1), dict(keys("x", "y"), list(null), str("s")))
	m := dict(append(make([]string, 0, 4), "a", "b"), append(make([]api.Value, 0, 4), shared, shared)...)
	given := []api.Var{{Name: "b", Value: shared}, {Name: "a", Value: shared}}
	before, beforeShared := snapshot(m), snapshot(shared)

	value.Compare(m, m)
	value.Show(m)
	value.Valid(m)
	made, _ := value.Map(given)
	entries, _ := value.Vars(m)
	got, _ := value.Get(m, "a")
	if given[0].Name != "b" || given[1].Name != "a" || !same(made, before) {
		t.Errorf("Map changes its argument: %+v, %+v", given, made)
	}
	overwrite(made.List[0])
	overwrite(entries[0].Value)
	if !same(made.List[1], beforeShared) || !same(entries[1].Value, beforeShared) || !same(got, beforeShared) {
		t.Error("two lists of a result share memory")
	}
	overwrite(made)
	overwrite(got)
	overwrite(entries[1].Value)
	if !same(m, before) || !same(shared, beforeShared) || !same(m.List[:4][3], null) || m.Keys[:4][3] != "" {
		t.Error("a result shares memory with an argument")
	}
}
