package eval_test

import (
	"math"
	"math/rand/v2"
	"slices"
	"strings"
	"testing"

	"pipeline/api"
	"pipeline/eval"
	"pipeline/parser"
	"pipeline/value"
)

// P12.3
func TestFold(t *testing.T) {
	for source, want := range map[string]string{
		"x": "x", "n": "3", "1": "1", "x + n * 2": "x + 6", "n + x * 2": "3 + x * 2", "f(1 + 2, x)": "f(3, x)", "f(1 + 2)": "f(3)", "len(n, 1 + 1)": "len(3, 2)", "len(x)": "len(x)", "len(l)": "2",
		"true || x": "true", "false && x": "false", "x || true && n == 3": "x || true", "x && (n == 3)": "x && true", "true && x": "true && x", "n == 3 && x": "true && x",
		"[x, l[0]]": "[x, 5]", "[n, l]": "[3, [5, 7]]", "{b: x, a: n}": `{"b": x, "a": 3}`, "{b: 1, a: n}": `{"a": 3, "b": 1}`, "[l, [l, x]]": "[[5, 7], [[5, 7], x]]",
		"n == 3 ? x : y": "true ? x : y", "x ? n + 1 : y": "x ? 4 : y", "n == 3 ? 1 : y": "1", "n == 4 ? x : n": "3", "x - (n - 5)": "x - -2", "-(n + x)": "-(3 + x)", "-n": "-3", "!(n == x)": "!(3 == x)",
		"1 / 0": "1 / 0", "n / (n - 3)": "3 / 0", "[n / 0, n]": "[3 / 0, 3]", "!n": "!3", "m.k": "9", "m.x": `{"k": 9}.x`, "x.k": "x.k", "x[n - 1]": "x[2]", "l[x]": "[5, 7][x]", "l[n]": "[5, 7][3]",
		"default(null, x)": "default(null, x)", "(x + 1) * (n + 1)": "(x + 1) * 4", "1 + 2 + x": "3 + x", "x + 1 + 2": "x + 1 + 2",
	} {
		env := vars(t, "n", "3", "l", "[5, 7]", "m", "{k: 9}")
		if got := eval.Fold(parsed(t, source), env); parser.Show(got) != want {
			t.Errorf("Fold of %s is %s, want %s", source, parser.Show(got), want)
		}
	}
	got := eval.Fold(parsed(t, "a + b * 2"), vars(t, "b", "3"))
	if want := binary("+", name("a"), lit(number(6))); !parser.Equal(got, want) {
		t.Errorf("Fold = %+v, want %+v", got, want)
	}
}

// P12.3: nothing is folded if the environment or the expression is not valid.
func TestFoldOfInvalid(t *testing.T) {
	sum := binary("+", lit(number(1)), lit(number(2)))
	for name, x := range invalidEnvs {
		if got := eval.Fold(sum, x.env); !parser.Equal(got, sum) {
			t.Errorf("Fold in %s = %+v", name, got)
		}
	}
	for _, x := range invalid {
		if got := eval.Fold(list(sum, x.e), nil); !parser.Equal(got, list(sum, x.e)) {
			t.Errorf("Fold of an expression of kind %d = %.200v", x.e.Kind, got)
		}
	}
	odd := api.Expr{Kind: 99, Name: "a", Keys: []string{"b"}, Value: listed(api.Value{Kind: 9, Int: math.MinInt}), Args: []api.Expr{sum}}
	if got := eval.Fold(odd, nil); !parser.Equal(got, odd) {
		t.Errorf("Fold = %+v", got)
	}
}

// forms are the expressions of all kinds that have some of three expressions as args.
func forms(a, b, c api.Expr) []api.Expr {
	all := []api.Expr{
		{Kind: api.EMember, Name: "a", Args: []api.Expr{a}}, {Kind: api.EIndex, Args: []api.Expr{a, b}}, {Kind: api.ECond, Args: []api.Expr{a, b, c}},
		{Kind: api.EUnary, Name: "!", Args: []api.Expr{a}}, {Kind: api.EUnary, Name: "-", Args: []api.Expr{a}},
		list(a), list(a, b, c), {Kind: api.EMap, Keys: []string{"b", "a"}, Args: []api.Expr{a, b}}, call("unknown", a),
	}
	for _, operator := range strings.Fields("|| && == != < <= > >= + - * / %") {
		all = append(all, binary(operator, a, b))
	}
	for _, f := range strings.Fields("len lower upper string int keys") {
		all = append(all, call(f, a))
	}
	for _, f := range strings.Fields("contains join split startswith endswith default") {
		all = append(all, call(f, a, b))
	}
	return all
}

// grown returns expressions that grow by chance from some names and literals.
func grown(t *testing.T, seed uint64) []api.Expr {
	chance := rand.New(rand.NewPCG(seed, 12))
	pool := []api.Expr{lit(null()), lit(truth(true)), lit(str("a")), lit(deep(16)), name("n"), name("l"), name("s"), name("b"), name("x"), name("y"), list()}
	one := func() api.Expr { return pool[chance.IntN(len(pool))] }
	for range 120 {
		for _, e := range forms(one(), one(), one()) {
			if chance.IntN(5) == 0 && parser.Count(e) < 40 && parser.Valid(e) == api.OK {
				pool = append(pool, e)
			}
		}
	}
	return pool
}

// expectSame checks that two expressions have the same value or error.
func expectSame(t *testing.T, a, b api.Expr, env, other []api.Var) {
	t.Helper()
	v, err := eval.Expr(a, env)
	w, fault := eval.Expr(b, other)
	if err != fault || !value.Equal(v, w) {
		t.Errorf("%s = %s, %v, but %s = %s, %v", parser.Show(a), value.Show(v), err, parser.Show(b), value.Show(w), fault)
	}
	if err == api.OK && value.Valid(v) != api.OK {
		t.Errorf("the value of %s is not valid", parser.Show(a))
	}
}

// P12.3, P12.4
func TestFoldedValues(t *testing.T) {
	few := vars(t, "n", "2", "l", "[1, [true]]")
	more := append(few, vars(t, "s", `"a,b"`, "b", "false", "x", "{a: 1, b: null}")...)
	for seed := range uint64(12) {
		for _, e := range grown(t, seed) {
			folded := eval.Fold(e, few)
			if parser.Valid(folded) != api.OK || !parser.Equal(folded, eval.Fold(folded, few)) {
				t.Errorf("Fold of %s is %s", parser.Show(e), parser.Show(folded))
			}
			expectSame(t, e, folded, few, few)
			expectSame(t, e, folded, more, more)
			// No variable of the environment is left.
			expectSame(t, folded, folded, more, more[len(few):])
			if v, err := eval.Expr(e, few); err == api.OK && !parser.Equal(folded, lit(v)) {
				t.Errorf("Fold of %s is not the literal of its value", parser.Show(e))
			}
		}
	}
}

// P12.4: variables that are not used.
func TestUnusedVariables(t *testing.T) {
	small := vars(t, "n", "2", "l", "[1, 2]")
	large := append(numbered(api.MaxList-4), vars(t, "m", "1", "n", "2", "len", "null", "l", "[1, 2]")...)
	for _, source := range []string{"n", "l[n]", "l[n - 1]", "len(l)", "m0", "{n: n, m: l}", "n + l", "l + [n]", "l.m", "m0 || n", "n / 0"} {
		expectSame(t, parsed(t, source), parsed(t, source), small, large)
	}
}

// P12.5: the negation of && is || of the negations.
func TestNegation(t *testing.T) {
	not := func(e api.Expr) api.Expr { return api.Expr{Kind: api.EUnary, Name: "!", Args: []api.Expr{e}} }
	atoms := []api.Expr{lit(truth(true)), lit(truth(false)), lit(null()), lit(number(1)), name("b"), name("x"), not(name("b")), parsed(t, "1 / 0"), parsed(t, "[0][1]"), list()}
	env := vars(t, "b", "true")
	for _, a := range atoms {
		for _, b := range atoms {
			expectSame(t, not(binary("&&", a, b)), binary("||", not(a), not(b)), env, env)
			expectSame(t, not(binary("||", a, b)), binary("&&", not(a), not(b)), env, env)
		}
	}
}

// scribble changes everything in the memory of a value, including the spare capacity of its lists.
func scribble(v api.Value) {
	for i := range v.List {
		scribble(v.List[i])
	}
	clear(v.List[:cap(v.List)])
	clear(v.Keys[:cap(v.Keys)])
}

func scribbleExpr(e api.Expr) {
	scribble(e.Value)
	for i := range e.Args {
		scribbleExpr(e.Args[i])
	}
	clear(e.Args[:cap(e.Args)])
	clear(e.Keys[:cap(e.Keys)])
}

// spare returns a list with spare capacity after its elements, and that capacity.
func spare(elements ...api.Value) (api.Value, []api.Value) {
	all := append(slices.Clone(elements), number(71), number(72), number(73))
	return listed(all[:len(elements)]...), all[len(elements):]
}

// R5: arguments are not changed, and nothing shares memory with a result.
func TestMemory(t *testing.T) {
	l, rest := spare(listed(number(1)), listed(str("a")))
	m := api.Value{Kind: api.VMap, Keys: []string{"a", "b"}, List: []api.Value{l, null()}}
	env := []api.Var{{Name: "l", Value: l}, {Name: "m", Value: m}, {Name: "n", Value: null()}}
	for _, source := range []string{
		"l", "m", "m.a", "l[0]", `m["a"]`, "[l, l]", "{b: m, a: m}", "{b: m.a, a: l}.a", "l + l", "l + [1]", "l + [] == l ? m : l", "default(n, l)", "default(l, n)", "keys(m)", "[[1, 2], {c: 1}]", "x + l", "f(m, l)", "[l, x]", "{c: l, d: x}", "x.a",
	} {
		e := parsed(t, source)
		scribbleExpr(eval.Fold(e, env))
		scribbleExpr(eval.Fold(e, append(env, api.Var{})))
		if v, err := eval.Expr(e, env); err == api.OK {
			before := value.Show(v)
			w, _ := eval.Expr(e, env)
			scribble(w)
			if value.Show(v) != before {
				t.Errorf("two values of %s share memory", source)
			}
			scribble(v)
		}
		literal := lit(m)
		scribbleExpr(eval.Fold(literal, env))
		scribbleExpr(eval.Fold(list(literal, literal, api.Expr{}), env))
		v, _ := eval.Expr(list(literal, literal), nil)
		scribble(v.List[0])
		if len(v.List) < 2 || value.Show(v.List[1]) != value.Show(m) {
			t.Errorf("the elements of a list share memory")
		}
		if value.Show(l) != `[[1], ["a"]]` || value.Show(m) != `{"a": [[1], ["a"]], "b": null}` || !parser.Equal(e, parsed(t, source)) {
			t.Fatalf("%s shares memory with its value", source)
		}
		if rest[0].Int != 71 || rest[1].Int != 72 || rest[2].Int != 73 {
			t.Fatalf("%s changes what lies after an argument", source)
		}
	}
}
