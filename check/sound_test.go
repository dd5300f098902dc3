package check_test

import (
	"math/rand/v2"
	"slices"
	"strings"
	"testing"

	"pipeline/api"
	"pipeline/check"
	"pipeline/eval"
	"pipeline/parser"
	"pipeline/typing"
	"pipeline/value"
)

// forms are the expressions of all kinds that have some of three expressions as args.
func forms(a, b, c api.Expr) []api.Expr {
	all := []api.Expr{
		{Kind: api.EMember, Name: "a", Args: []api.Expr{a}}, {Kind: api.EIndex, Args: []api.Expr{a, b}}, {Kind: api.ECond, Args: []api.Expr{a, b, c}},
		{Kind: api.EUnary, Name: "!", Args: []api.Expr{a}}, {Kind: api.EUnary, Name: "-", Args: []api.Expr{a}},
		list(a), list(a, b), list(a, b, c), {Kind: api.EMap, Keys: []string{"b", "a"}, Args: []api.Expr{a, b}},
	}
	for _, operator := range strings.Fields("|| && == != < <= > >= + - * / % + +") {
		all = append(all, api.Expr{Kind: api.EBinary, Name: operator, Args: []api.Expr{a, b}})
	}
	for _, f := range signatures {
		args := []api.Expr{a, b}[:len(strings.Fields(f.alternatives[0]))]
		all = append(all, api.Expr{Kind: api.ECall, Name: f.name, Args: args})
	}
	return all
}

// samples are sources of values, each with types that it fits.
var samples = []struct{ name, source, types string }{
	{"z", "null", "null any"},
	{"b", "true", "bool any"},
	{"n", "0", "int any"},
	{"m", "9007199254740992", "int any"},
	{"s", `"a"`, "string any"},
	{"t", `"12"`, "string any"},
	{"e", "[]", "list(never) list(int) list(list(any)) list(any) any"},
	{"l", "[1, 0]", "list(int) list(any) any"},
	{"k", `["a", "b"]`, "list(string) list(any) any"},
	{"h", `[1, "a"]`, "list(any) any"},
	{"d", "{}", "map(never) map(string) map(any) any"},
	{"p", `{a: 1, b: 2}`, "map(int) map(any) any"},
	{"q", `{a: [null, null], b: []}`, "map(list(null)) map(list(any)) map(any) any"},
	{"w", strings.Repeat("[", 15) + "1" + strings.Repeat("]", 15), "any list(any) list(list(any))"},
}

// environment returns the values of the samples with their own types, or, if chosen, with types that are found by chance.
func environment(t *testing.T, chance *rand.Rand, chosen bool) ([]api.Var, []api.Decl) {
	var vars []api.Var
	var decls []api.Decl
	for _, x := range samples {
		v, err := eval.Expr(parsed(t, x.source), nil)
		types := strings.Fields(x.types)
		if !chosen {
			types = types[:1]
		}
		u := typed(t, types[chance.IntN(len(types))])
		if err != api.OK || !typing.Fits(v, u) {
			t.Fatalf("%s does not fit %s: %v", x.source, typing.Show(u), err)
		}
		vars = append(vars, api.Var{Name: x.name, Value: v})
		decls = append(decls, api.Decl{Name: x.name, Type: u})
	}
	return vars, decls
}

// strict reports whether no type of an expression or of a part of it contains any.
func strict(e api.Expr, env []api.Decl) bool {
	u, err := check.Expr(e, env)
	return err == api.OK && !strings.Contains(typing.Show(u), "any") && !slices.ContainsFunc(e.Args, func(arg api.Expr) bool { return !strict(arg, env) })
}

// expectSound checks the value of an expression with a type, and reports whether it has a value.
func expectSound(t *testing.T, e api.Expr, u api.Type, vars []api.Var, decls []api.Decl) bool {
	t.Helper()
	v, err := eval.Expr(e, vars)
	switch err {
	case api.OK:
		if !typing.Fits(v, u) {
			t.Errorf("%s is %s, which does not fit %s, in %+v", parser.Show(e), value.Show(v), typing.Show(u), decls)
		}
	case api.ErrNotFound, api.ErrOverflow, api.ErrDivide, api.ErrInvalid, api.ErrTooLong, api.ErrDepth:
	case api.ErrType:
		if strict(e, decls) {
			t.Errorf("%s has the type %s and is strict, but has no value, in %+v", parser.Show(e), typing.Show(u), decls)
		}
	default:
		t.Errorf("%s: %v, in %+v", parser.Show(e), err, decls)
	}
	return err == api.OK
}

// P11.4, P11.5: expressions that grow by chance from those that have a type.
func TestSound(t *testing.T) {
	for seed := range uint64(12) {
		chance := rand.New(rand.NewPCG(seed, 11))
		vars, decls := environment(t, chance, seed%2 == 0)
		pool := []api.Expr{lit(api.Value{}), list(), {Kind: api.EMap}}
		for _, d := range decls {
			pool = append(pool, name(d.Name))
		}
		one := func() api.Expr { return pool[chance.IntN(len(pool))] }
		for range 200 {
			for _, e := range forms(one(), one(), one()) {
				u, err := check.Expr(e, decls)
				if err != api.OK {
					continue
				}
				if typing.Valid(u) != api.OK {
					t.Errorf("the type of %s is not valid", parser.Show(e))
				}
				if expectSound(t, e, u, vars, decls) && chance.IntN(4) == 0 && parser.Count(e) < 40 {
					pool = append(pool, e)
				}
			}
		}
	}
}

// P11.4: what is strict, and what is not.
func TestStrict(t *testing.T) {
	for source, want := range map[string]bool{
		"n + 1": true, "[1, 2][0]": true, "{}.a": true, "[1, \"a\"]": false, "[1, \"a\"][0] + 1": false, "x == 1": false, "len([x])": false, "default(z, [])": true,
	} {
		if got := strict(parsed(t, source), env(t)); got != want {
			t.Errorf("strict(%s) = %v", source, got)
		}
	}
	e := parsed(t, `join([1, "a"], ",")`)
	if _, err := check.Expr(e, nil); err != api.OK {
		t.Errorf("join of a list of any has no type: %v", err)
	}
	if _, err := eval.Expr(e, nil); err != api.ErrType {
		t.Errorf("join of a number: %v", err)
	}
}

// P11.5
func TestUnusedNames(t *testing.T) {
	small := declared(t, "n", "int", "l", "list(int)")
	large := append(numbered(api.MaxList-4), declared(t, "m", "never", "n", "int", "z", "any", "l", "list(int)")...)
	for _, source := range []string{"n", "l", "[n, l[0]]", "{n: n, z: l}", "n ? l : n", "l + [n]", "m0", "keys(n)", "n.z", "z(n)"} {
		e := parsed(t, source)
		u, err := check.Expr(e, small)
		v, other := check.Expr(e, large)
		if err != other || typing.Show(u) != typing.Show(v) {
			t.Errorf("the type of %s is %s, %v, and with more declarations %s, %v", source, typing.Show(u), err, typing.Show(v), other)
		}
	}
}

// R5
func TestMemory(t *testing.T) {
	env := declared(t, "l", "list(list(int))", "m", "map(list(int))", "d", "null")
	for _, source := range []string{"l", "l + []", "m.a", "[l]", "[m]", "b ? l : l", "default(d, l)", "l[0]"} {
		e := parsed(t, source)
		u, err := check.Expr(e, append(env, declared(t, "b", "bool")...))
		if err != api.OK {
			t.Errorf("%s: %v", source, err)
		}
		for ; len(u.Elem) > 0; u = u.Elem[0] {
			u.Elem[0].Kind = 99
		}
		if typing.Show(env[0].Type) != "list(list(int))" || typing.Show(env[1].Type) != "map(list(int))" {
			t.Fatalf("the type of %s shares memory with the environment", source)
		}
	}
	names := []api.Expr{name("b"), name("a"), name("b"), name("c")}
	check.Names(list(names[:3]...))
	if names[0].Name != "b" || names[1].Name != "a" || names[3].Name != "c" {
		t.Error("Names changes its argument")
	}
}
