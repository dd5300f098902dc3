package parser_test

import (
	"math"
	"slices"
	"strings"
	"testing"

	"pipeline/api"
	"pipeline/parser"
)

func nestedValue(v api.Value, lists int) api.Value {
	for range lists {
		v = api.Value{Kind: api.VList, List: []api.Value{v}}
	}
	return v
}

// wide returns an expression of 4 levels with so many nodes.
func wide(nodes int) api.Expr {
	e := list()
	for nodes--; nodes > 0; nodes -= min(nodes, api.MaxList) {
		e.Args = append(e.Args, list(repeated(a, min(nodes, api.MaxList)-1)...))
	}
	return e
}

// samples are valid expressions of all kinds.
var samples = []api.Expr{
	null, a, member(a, "b"), index(a, b), call("a", b), unary("-", a), binary("+", a, b), cond(a, b, c), list(a, b), dict(keys("x", "y"), a, b),
}

var valid = append([]api.Expr{
	truth(false), truth(true), number(0), number(-1), number(api.MaxNumber), number(-api.MaxNumber), str(""), str(tooLong[1:]),
	lit(api.Value{Kind: api.VList}), lit(nestedValue(api.Value{}, 15)), lit(api.Value{Kind: api.VMap, Keys: keys("a"), List: []api.Value{{}}}),
	{Kind: api.EName, Name: "a", Args: []api.Expr{}, Keys: []string{}, Value: api.Value{List: []api.Value{}, Keys: []string{}}},
	call("a"), call("a", repeated(b, api.MaxList)...), list(), list(repeated(b, api.MaxList)...),
	dict(nil), dict(numbered(api.MaxList), repeated(b, api.MaxList)...), dict(keys("\x00", "a b", "true", "1", longName), repeated(b, 5)...),
	unary("!", unary("!", a)), nested(a, 15), nested(list(), 15), nested(lit(nestedValue(api.Value{}, 15)), 15),
	wide(4000), wide(api.MaxNodes),
}, samples...)

var invalid = []struct {
	name  string
	e     api.Expr
	error api.Errno
}{
	{"zero", api.Expr{}, api.ErrInvalid},
	{"kind 11", api.Expr{Kind: 11}, api.ErrInvalid},
	{"kind -1", api.Expr{Kind: -1}, api.ErrInvalid},
	{"greatest kind", api.Expr{Kind: math.MaxInt}, api.ErrInvalid},
	{"least kind", api.Expr{Kind: math.MinInt}, api.ErrInvalid},

	{"keys of a list", api.Expr{Kind: api.EList, Keys: keys("a"), Args: []api.Expr{a}}, api.ErrInvalid},
	{"fewer keys", dict(keys("a"), a, b), api.ErrInvalid},
	{"more keys", dict(keys("a", "b"), a), api.ErrInvalid},
	{"no keys", dict(nil, a), api.ErrInvalid},
	{"no args", dict(keys("a")), api.ErrInvalid},
	{"empty key", dict(keys("a", ""), a, b), api.ErrInvalid},
	{"long key", dict(keys("n"+longName, "a"), a, b), api.ErrInvalid},

	{"kind of a literal", lit(api.Value{Kind: 6}), api.ErrInvalid},
	{"field of a literal", lit(api.Value{Kind: api.VNull, Int: 1}), api.ErrInvalid},
	{"number above", number(api.MaxNumber + 1), api.ErrRange},
	{"number below", number(-api.MaxNumber - 1), api.ErrRange},
	{"long string", str(tooLong), api.ErrTooLong},
	{"deep literal", lit(nestedValue(api.Value{}, 16)), api.ErrDepth},
	{"literal with an element", lit(nestedValue(api.Value{Kind: 6}, 3)), api.ErrInvalid},

	{"long list", list(repeated(a, api.MaxList+1)...), api.ErrTooLong},
	{"long call", call("f", repeated(a, api.MaxList+1)...), api.ErrTooLong},
	{"long map", dict(numbered(api.MaxList+1), repeated(a, api.MaxList+1)...), api.ErrTooLong},
	{"key twice", dict(keys("a", "a"), a, b), api.ErrExists},
	{"key twice, not in a row", dict(keys("a", "b", "c", "a"), a, b, c, a), api.ErrExists},
	{"deep", nested(a, 16), api.ErrDepth},
	{"deep on the right", list(a, b, nested(a, 15)), api.ErrDepth},
	{"deep operations", binary("+", a, nested(a, 15)), api.ErrDepth},
	{"very deep", nested(a, api.MaxNodes-1), api.ErrDepth},
	{"many nodes", wide(api.MaxNodes + 1), api.ErrLimit},
	{"too deep to be looked at", nested(a, api.MaxNodes), api.ErrLimit},
	{"as deep as is promised", nested(a, 1<<16-1), api.ErrLimit},
	{"nodes of an expression that is not well-formed", api.Expr{Args: repeated(api.Expr{}, api.MaxNodes)}, api.ErrLimit},

	// Which error comes first of one expression.
	{"limit before depth and kind", list(nested(api.Expr{}, 16), wide(api.MaxNodes)), api.ErrLimit},
	{"depth before kind", nested(api.Expr{}, 16), api.ErrDepth},
	{"depth before a literal", nested(number(math.MaxInt), 16), api.ErrDepth},
	{"form before length", api.Expr{Kind: api.EList, Name: "a", Args: repeated(a, api.MaxList+1)}, api.ErrInvalid},
	{"key before length", dict(append(numbered(api.MaxList), ""), repeated(a, api.MaxList+1)...), api.ErrInvalid},
	{"key before key twice", dict(keys("a", "a", ""), a, b, c), api.ErrInvalid},
	{"form of a literal before its value", api.Expr{Kind: api.ELit, Name: "a", Value: api.Value{Kind: api.VInt, Int: math.MaxInt}}, api.ErrInvalid},
	{"length before key twice", dict(append(numbered(api.MaxList), "k0"), repeated(a, api.MaxList+1)...), api.ErrTooLong},

	// Which one comes first.
	{"from left to right: range", list(a, number(math.MaxInt), api.Expr{}), api.ErrRange},
	{"from left to right: kind", list(a, api.Expr{}, number(math.MaxInt)), api.ErrInvalid},
	{"parent before args", dict(keys("a", "a"), api.Expr{}, number(math.MaxInt)), api.ErrExists},
	{"length before args", list(append(repeated(a, api.MaxList), api.Expr{})...), api.ErrTooLong},
	{"args before the next one", list(list(list(str(tooLong))), api.Expr{}), api.ErrTooLong},
	{"depth before the next one", list(nested(a, 15), api.Expr{}), api.ErrDepth},
	{"the first one before depth", list(list(api.Expr{}), nested(a, 15)), api.ErrInvalid},
	{"args of an operation", binary("+", dict(keys("a", "a"), a, b), number(math.MaxInt)), api.ErrExists},
	{"the third arg", cond(a, list(b), unary("-", number(math.MaxInt))), api.ErrRange},
}

// P10.1
func TestValid(t *testing.T) {
	for _, e := range valid {
		if err := parser.Valid(e); err != api.OK {
			t.Errorf("Valid(%.80v) = %v", e, err)
		}
	}
	for _, x := range invalid {
		if err := parser.Valid(x.e); err != x.error {
			t.Errorf("Valid(%s) = %v, want %v", x.name, err, x.error)
		}
	}
	for _, x := range parsed {
		if err := parser.Valid(x.e); err != api.OK {
			t.Errorf("Valid(%s) = %v", x.shown, err)
		}
	}
}

// expectForm checks whether an expression, which has no other error, is well-formed: alone and as an arg.
func expectForm(t *testing.T, e api.Expr, ok bool) {
	t.Helper()
	want := api.OK
	if !ok {
		want = api.ErrInvalid
	}
	for _, e := range []api.Expr{e, list(a, e), unary("!", e)} {
		if err := parser.Valid(e); err != want {
			t.Errorf("Valid(%+v) = %v, want %v", e, err, want)
		}
		if shown := parser.Show(e); (shown != "") != ok {
			t.Errorf("Show(%+v) = %q", e, shown)
		}
	}
}

// P10.1: only literals have values.
func TestFormOfValues(t *testing.T) {
	for _, e := range samples[1:] {
		for _, v := range []api.Value{{Kind: api.VBool}, {Kind: api.VInt}, {Kind: api.VString}, {Kind: api.VList}, {Kind: api.VMap}, {Kind: 6}, {Bool: true}, {Int: 1}, {Str: "a"}, {List: []api.Value{{}}}, {Keys: keys("a")}} {
			e.Value = v
			expectForm(t, e, false)
		}
	}
}

// P10.1: the names of each kind.
func TestFormOfNames(t *testing.T) {
	plain := []string{"a", "Z", "_", "A_9", "True", "NULL", "len", "_0", longName}
	operators := []string{"||", "&&", "==", "!=", "<", "<=", ">", ">=", "+", "*", "/", "%", "-"}
	others := []string{"true", "false", "null", "0", "1a", "a b", " a", "a ", "a-b", "a.b", "é", "\xff", "a\n", "a#", "\"a\"", "n" + longName, strings.Repeat("n", 70000), "=", "?", ":", ".", "(", "|", "&", "++", "+ ", "!!"}
	allowed := func(kind int) []string {
		switch kind {
		case api.EName, api.EMember, api.ECall:
			return plain
		case api.EUnary:
			return []string{"!", "-"}
		case api.EBinary:
			return operators
		}
		return []string{""}
	}
	for _, e := range samples {
		for _, s := range slices.Concat([]string{"", "!"}, plain, operators, others) {
			e.Name = s
			expectForm(t, e, slices.Contains(allowed(e.Kind), s))
		}
	}
}

// P10.1: the number of args of each kind, and keys.
func TestFormOfArgs(t *testing.T) {
	counts := map[int][]int{
		api.ELit: {0}, api.EName: {0}, api.EMember: {1}, api.EUnary: {1}, api.EIndex: {2}, api.EBinary: {2}, api.ECond: {3},
		api.ECall: {0, 1, 2, 3, 4, 5}, api.EList: {0, 1, 2, 3, 4, 5}, api.EMap: {0, 1, 2, 3, 4, 5},
	}
	for _, e := range samples {
		for count := range 6 {
			e.Args, e.Keys = repeated(a, count), nil
			if e.Kind == api.EMap {
				e.Keys = numbered(count)
			}
			expectForm(t, e, slices.Contains(counts[e.Kind], count))
			if e.Keys = numbered(count + 1); e.Kind != api.EMap {
				expectForm(t, e, false)
			}
		}
	}
	for _, key := range []string{"a", " ", "\"", "\x00\xff", "null", longName} {
		expectForm(t, dict(keys(key), a), true)
	}
}

// P10.4: what Parse does not return, and what is not valid.
func TestShow(t *testing.T) {
	minus := number(-5)
	scalars := api.Value{Kind: api.VList, List: []api.Value{{Kind: api.VInt, Int: -5}, {}}}
	for _, x := range []struct {
		e    api.Expr
		want string
	}{
		{minus, "-5"},
		{number(-api.MaxNumber), "-9007199254740992"},
		{member(minus, "x"), "(-5).x"},
		{index(minus, minus), "(-5)[-5]"},
		{unary("-", minus), "--5"},
		{unary("!", minus), "!-5"},
		{binary("*", minus, minus), "-5 * -5"},
		{binary("<", minus, minus), "-5 < -5"},
		{cond(minus, minus, minus), "-5 ? -5 : -5"},
		{call("f", minus), "f(-5)"},
		{list(minus, minus), "[-5, -5]"},
		{dict(keys("a"), minus), `{"a": -5}`},
		{member(unary("-", minus), "x"), "(--5).x"},
		{lit(scalars), "[-5, null]"},
		{member(lit(scalars), "x"), "[-5, null].x"},
		{index(lit(api.Value{Kind: api.VMap, Keys: keys("a"), List: []api.Value{scalars}}), a), `{"a": [-5, null]}[a]`},
		{str("\x7f\"\\\n\t\xe9"), `"\x7f\"\\\n\t\xe9"`},
		{dict(keys("\x7f\"", "\xe9"), a, b), `{"\x7f\"": a, "\xe9": b}`},
		{call("f", cond(a, b, c), binary("||", a, b)), "f(a ? b : c, a || b)"},
		{list(cond(a, b, c), list()), "[a ? b : c, []]"},
		{index(a, cond(a, b, c)), "a[a ? b : c]"},
		{nested(a, 15), "[[[[[[[[[[[[[[[a]]]]]]]]]]]]]]]"},
	} {
		if got := parser.Show(x.e); got != x.want {
			t.Errorf("Show(%+v) = %s, want %s", x.e, got, x.want)
		}
	}
	for _, x := range invalid {
		if got := parser.Show(x.e); got != "" {
			t.Errorf("Show(%s) = %.80q", x.name, got)
		}
	}
}

// P10.4: every operator with every expression as each of its operands, in parentheses or not.
func TestShowOfOperands(t *testing.T) {
	operators := []struct {
		op                 string
		first, second, own int
	}{
		{"||", 2, 3, 2}, {"&&", 3, 4, 3}, {"==", 5, 5, 4}, {"!=", 5, 5, 4}, {"<", 5, 5, 4}, {"<=", 5, 5, 4}, {">", 5, 5, 4}, {">=", 5, 5, 4},
		{"+", 5, 6, 5}, {"-", 5, 6, 5}, {"*", 6, 7, 6}, {"/", 6, 7, 6}, {"%", 6, 7, 6},
	}
	type operand struct {
		e        api.Expr
		source   string
		strength int
	}
	operands := []operand{
		{cond(a, b, c), "a ? b : c", 1}, {unary("-", a), "-a", 7}, {unary("!", a), "!a", 7}, {number(-1), "-1", 7},
		{number(1), "1", 8}, {a, "a", 8}, {member(a, "b"), "a.b", 8}, {index(a, b), "a[b]", 8}, {call("f"), "f()", 8}, {list(a), "[a]", 8}, {dict(nil), "{}", 8},
	}
	for _, o := range operators {
		operands = append(operands, operand{binary(o.op, a, b), "a " + o.op + " b", o.own})
	}
	within := func(x operand, least int) string {
		if x.strength < least {
			return "(" + x.source + ")"
		}
		return x.source
	}
	for _, x := range operands {
		wants := []struct {
			e    api.Expr
			want string
		}{
			{member(x.e, "m"), within(x, 8) + ".m"},
			{index(x.e, x.e), within(x, 8) + "[" + x.source + "]"},
			{call("f", x.e, x.e), "f(" + x.source + ", " + x.source + ")"},
			{unary("-", x.e), "-" + within(x, 7)},
			{unary("!", x.e), "!" + within(x, 7)},
			{cond(x.e, x.e, x.e), within(x, 2) + " ? " + x.source + " : " + x.source},
			{list(x.e, x.e), "[" + x.source + ", " + x.source + "]"},
			{dict(keys("k", "j"), x.e, x.e), `{"k": ` + x.source + `, "j": ` + x.source + "}"},
		}
		for _, o := range operators {
			e := binary(o.op, x.e, x.e)
			wants = append(wants, struct {
				e    api.Expr
				want string
			}{e, within(x, o.first) + " " + o.op + " " + within(x, o.second)})
		}
		for _, w := range wants {
			if got := parser.Show(w.e); got != w.want {
				t.Errorf("Show = %s, want %s", got, w.want)
			}
		}
	}
}

// P10.5
func TestEqual(t *testing.T) {
	different := slices.Clone(valid)
	for _, x := range parsed {
		if !slices.ContainsFunc(different, func(e api.Expr) bool { return same(e, x.e) }) {
			different = append(different, x.e)
		}
	}
	different = append(different,
		api.Expr{}, api.Expr{Kind: 11}, api.Expr{Kind: 11, Name: "a"}, api.Expr{Kind: 11, Keys: keys("a")}, api.Expr{Kind: 11, Keys: keys("b")}, api.Expr{Kind: 11, Keys: keys("a", "a")},
		api.Expr{Kind: 11, Value: api.Value{Kind: api.VInt, Int: 1}}, api.Expr{Kind: 11, Value: api.Value{Kind: api.VInt, Int: 2}}, api.Expr{Kind: 11, Args: []api.Expr{{}}}, api.Expr{Kind: 11, Args: []api.Expr{{}, {}}},
		api.Expr{Kind: api.EName, Name: "a", Keys: keys("a")}, api.Expr{Kind: api.EName, Name: "a", Args: []api.Expr{a}}, api.Expr{Kind: api.EName, Name: "a", Value: api.Value{Kind: api.VBool}},
		dict(keys("x"), a, b), dict(keys("y", "x"), a, b), dict(keys("x", "y"), b, a), binary("-", a, b), binary("+", b, a),
		number(math.MaxInt), number(math.MaxInt-1), lit(api.Value{Kind: 6}),
	)
	for _, x := range different {
		for _, y := range different {
			if got := parser.Equal(x, y); got != same(x, y) {
				t.Errorf("Equal(%.80v, %.80v) = %v", x, y, got)
			}
		}
	}
	if !parser.Equal(api.Expr{Kind: api.EList}, api.Expr{Kind: api.EList, Args: []api.Expr{}, Keys: []string{}}) {
		t.Error("an empty list is not equal to nil")
	}
	// Values are equal as in layer 7: of the kind null, and of no kind, all are.
	for _, kind := range []int{api.VNull, 6, -1} {
		if !parser.Equal(lit(api.Value{Kind: kind, Int: 1}), lit(api.Value{Kind: kind, Str: "a"})) {
			t.Errorf("values of kind %d are not equal", kind)
		}
	}
	x, y := nested(a, 1<<16-1), nested(b, 1<<16-1)
	if parser.Equal(x, y) || !parser.Equal(x, nested(a, 1<<16-1)) {
		t.Error("Equal of deep expressions")
	}
}

// P10.5
func TestCount(t *testing.T) {
	for _, x := range []struct {
		e    api.Expr
		want int
	}{
		{api.Expr{}, 1},
		{a, 1},
		{list(), 1},
		{lit(nestedValue(api.Value{}, 10)), 1},
		{dict(keys("a", "b"), a), 2},
		{member(a, "b"), 2},
		{binary("+", a, binary("*", b, c)), 5},
		{cond(a, list(a, b), call("f", unary("-", c))), 8},
		{api.Expr{Kind: 99, Args: []api.Expr{{}, {Kind: api.ELit, Args: []api.Expr{a, a}}}}, 5},
		{nested(a, 16), 17},
		{nested(a, 1<<16-1), 1 << 16},
		{wide(api.MaxNodes), api.MaxNodes},
		{wide(3 * api.MaxNodes), 3 * api.MaxNodes},
		{list(repeated(list(repeated(a, 999)...), 1000)...), 1000001},
	} {
		if got := parser.Count(x.e); got != x.want {
			t.Errorf("Count of an expression of kind %d = %d, want %d", x.e.Kind, got, x.want)
		}
	}
}
