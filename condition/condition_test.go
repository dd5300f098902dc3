package condition_test

import (
	"fmt"
	"math"
	"reflect"
	"slices"
	"strings"
	"testing"

	"pipeline/api"
	"pipeline/check"
	"pipeline/condition"
	"pipeline/eval"
	"pipeline/parser"
	"pipeline/typing"
)

const (
	none      = api.StatusNone
	succeeded = api.StatusSuccess
	failed    = api.StatusFailure
	skipped   = api.StatusSkipped
	cancelled = api.StatusCancelled
)

// summaries are the names that each environment begins with.
var summaries = []string{"always", "cancelled", "failure", "skipped", "success"}

func number(n int) api.Value { return api.Value{Kind: api.VInt, Int: n} }

func name(s string) api.Expr { return api.Expr{Kind: api.EName, Name: s} }

func lit(v api.Value) api.Expr { return api.Expr{Kind: api.ELit, Value: v} }

func parsed(t *testing.T, source string) api.Expr {
	t.Helper()
	e, _, err := parser.Parse(source)
	if err != api.OK {
		t.Fatalf("Parse(%s): %v", source, err)
	}
	return e
}

func typed(t *testing.T, text string) api.Type {
	t.Helper()
	u, err := typing.Parse(text)
	if err != api.OK {
		t.Fatalf("Parse(%s): %v", text, err)
	}
	return u
}

// declared returns declarations of names, each followed by its type.
func declared(t *testing.T, words ...string) []api.Decl {
	t.Helper()
	var decls []api.Decl
	for i := 0; i < len(words); i += 2 {
		decls = append(decls, api.Decl{Name: words[i], Type: typed(t, words[i+1])})
	}
	return decls
}

// vars returns variables of names, each followed by the source of its value.
func vars(t *testing.T, words ...string) []api.Var {
	t.Helper()
	var all []api.Var
	for i := 0; i < len(words); i += 2 {
		v, err := eval.Expr(parsed(t, words[i+1]), nil)
		if err != api.OK {
			t.Fatalf("%s: %v", words[i+1], err)
		}
		all = append(all, api.Var{Name: words[i], Value: v})
	}
	return all
}

// numbered returns so many variables of different names, and their declarations.
func numbered(count int) ([]api.Var, []api.Decl) {
	var all []api.Var
	var decls []api.Decl
	for i := range count {
		all = append(all, api.Var{Name: fmt.Sprint("v", i), Value: number(i)})
		decls = append(decls, api.Decl{Name: fmt.Sprint("v", i), Type: api.Type{Kind: api.TInt}})
	}
	return all, decls
}

// statusLists enumerates the lists of at most so many statuses, among them numbers that are none.
func statusLists(length int) [][]int {
	all := [][]int{nil}
	for begin, end := 0, 1; length > 0; length-- {
		for _, l := range all[begin:end] {
			for _, status := range []int{-1, none, succeeded, failed, skipped, cancelled, 5} {
				all = append(all, append(slices.Clone(l), status))
			}
		}
		begin, end = end, len(all)
	}
	return all
}

// P17.1
func TestDefault(t *testing.T) {
	if e := condition.Default(); !reflect.DeepEqual(e, name("success")) || parser.Show(e) != "success" {
		t.Errorf("Default = %+v", e)
	}
}

// P17.2, P17.5: the definitions of the summaries, for all short lists.
func TestSummaries(t *testing.T) {
	for _, needs := range statusLists(4) {
		given := slices.Clone(needs)
		others := func(status int) bool { return status != succeeded }
		want := []bool{true, slices.Contains(needs, cancelled), slices.Contains(needs, failed), slices.Contains(needs, skipped), !slices.ContainsFunc(needs, others)}
		env := condition.Env(needs, nil)
		if len(env) != len(summaries) {
			t.Fatalf("Env(%v) = %v", needs, env)
		}
		for i, v := range env {
			if !reflect.DeepEqual(v, api.Var{Name: summaries[i], Value: api.Value{Kind: api.VBool, Bool: want[i]}}) {
				t.Errorf("Env(%v): %+v, want %s %v", needs, v, summaries[i], want[i])
			}
			if got, err := condition.Eval(name(summaries[i]), needs, nil); got != want[i] || err != api.OK {
				t.Errorf("%s of %v = %v, %v, want %v", summaries[i], needs, got, err, want[i])
			}
		}
		if !slices.Equal(needs, given) {
			t.Errorf("Env changes %v to %v", given, needs)
		}
	}
}

// P17.2: the variables follow, whatever they are.
func TestEnvVars(t *testing.T) {
	many, _ := numbered(api.MaxList + 9)
	for _, all := range [][]api.Var{
		nil, vars(t, "n", "3", "m", "{a: [1]}"), many,
		{{Name: "success"}, {Name: "success", Value: number(1)}, {}, {Name: "a b", Value: number(math.MaxInt)}, {Name: "v", Value: api.Value{Kind: 77, Str: "x", List: []api.Value{{Kind: -1}}}}},
	} {
		env := condition.Env([]int{failed, skipped}, all)
		if len(env) != 5+len(all) || len(all) > 0 && !reflect.DeepEqual(env[5:], all) {
			t.Errorf("Env with %.99v = %.99v", all, env)
		}
		if !reflect.DeepEqual(env[:5], condition.Env([]int{skipped, failed, failed}, nil)) {
			t.Errorf("Env with %.99v begins with %v", all, env[:5])
		}
	}
}

// R5
func TestMemory(t *testing.T) {
	all := append(make([]api.Var, 0, 9), vars(t, "m", "{a: [1]}", "l", "[[2]]")...)
	env := condition.Env([]int{succeeded}, all)
	env[5].Value.Keys[0], env[5].Value.List[0].List[0], env[6].Value.List[0] = "b", number(9), number(9)
	env[6] = api.Var{}
	if !reflect.DeepEqual(all, vars(t, "m", "{a: [1]}", "l", "[[2]]")) {
		t.Errorf("Env shares memory with its argument: %v", all)
	}
	decls := append(make([]api.Decl, 0, 9), declared(t, "n", "int")...)
	condition.Check(name("n"), decls)
	condition.Eval(name("n"), nil, all)
	if !reflect.DeepEqual(decls[:2], append(declared(t, "n", "int"), api.Decl{})) || !reflect.DeepEqual(all[:3], append(vars(t, "m", "{a: [1]}", "l", "[[2]]"), api.Var{})) {
		t.Error("Check or Eval changes what it is given")
	}
}

// P17.3
func TestCheck(t *testing.T) {
	decls := declared(t, "n", "int", "s", "string", "b", "bool", "x", "any", "v", "never", "z", "null", "l", "list(bool)", "m", "map(any)")
	for source, want := range map[string]api.Errno{
		"always": api.OK, "cancelled": api.OK, "failure": api.OK, "skipped": api.OK, "success": api.OK, "true": api.OK, "b": api.OK, "x": api.OK, "v": api.OK,
		"success && n > 1": api.OK, "!failure || cancelled && !skipped": api.OK, "always == success": api.OK, "l[0]": api.OK, "m.a": api.OK, "[][0]": api.OK, "b ? x : v": api.OK, `contains(s, "a")`: api.OK,
		"n": api.ErrType, "s": api.ErrType, "z": api.ErrType, "l": api.ErrType, "m": api.ErrType, "[]": api.ErrType, "{}": api.ErrType, "null": api.ErrType, "1": api.ErrType, `"success"`: api.ErrType, "-x": api.ErrType, "string(success)": api.ErrType,
		"success + 1": api.ErrType, "success < failure": api.ErrType, "n && success": api.ErrType, "always.a": api.ErrType, "success ? n : 1": api.ErrType, "success ? n : b": api.OK,
		"y": api.ErrName, "success && y": api.ErrName, "Success": api.ErrName, "succeeded": api.ErrName, "success()": api.ErrName, "always || y": api.ErrName, "n + y": api.ErrName, "len()": api.ErrInvalid, "len(l, y)": api.ErrInvalid,
	} {
		if got := condition.Check(parsed(t, source), decls); got != want {
			t.Errorf("Check(%s) = %v, want %v", source, got, want)
		}
	}
	if err := condition.Check(condition.Default(), nil); err != api.OK {
		t.Errorf("Check(Default) = %v", err)
	}
}

// invalid are expressions that are not valid, with their errors.
var invalid = []struct {
	e    api.Expr
	want api.Errno
}{
	{api.Expr{}, api.ErrInvalid},
	{name("true"), api.ErrInvalid},
	{name(""), api.ErrInvalid},
	{api.Expr{Kind: api.EName, Name: "success", Keys: []string{"a"}}, api.ErrInvalid},
	{lit(number(math.MaxInt)), api.ErrRange},
	{lit(api.Value{Kind: api.VString, Str: strings.Repeat("s", api.MaxString+1)}), api.ErrTooLong},
	{api.Expr{Kind: api.EList, Args: slices.Repeat([]api.Expr{name("y")}, api.MaxList+1)}, api.ErrTooLong},
	{api.Expr{Kind: api.EMap, Keys: []string{"a", "a"}, Args: []api.Expr{name("y"), name("y")}}, api.ErrExists},
	{api.Expr{Kind: api.EList, Args: slices.Repeat([]api.Expr{name("y")}, api.MaxNodes)}, api.ErrLimit},
	{nested(api.MaxDepth), api.ErrDepth},
}

// nested returns a name that is unknown, negated so often.
func nested(levels int) api.Expr {
	e := name("unknown")
	for range levels {
		e = api.Expr{Kind: api.EUnary, Name: "!", Args: []api.Expr{e}}
	}
	return e
}

// P17.3: the errors of the environment are before those of the expression, and these before those of its type.
func TestCheckErrors(t *testing.T) {
	_, most := numbered(api.MaxList - 5)
	_, more := numbered(api.MaxList - 4)
	_, many := numbered(api.MaxList + 1)
	if err := condition.Check(name("always"), most); err != api.OK {
		t.Errorf("as many declarations as may be: %v", err)
	}
	for _, x := range []struct {
		decls []api.Decl
		want  api.Errno
	}{
		{more, api.ErrTooLong}, {many, api.ErrTooLong}, {append(slices.Clone(most), declared(t, "success", "int")...), api.ErrTooLong},
		{declared(t, "n", "int", "n", "int"), api.ErrExists}, {declared(t, "a-b", "int"), api.ErrInvalid}, {declared(t, "", "bool"), api.ErrInvalid}, {declared(t, "true", "bool"), api.ErrInvalid},
		{[]api.Decl{{Name: "n", Type: api.Type{Kind: 8}}}, api.ErrInvalid}, {[]api.Decl{{Name: "success", Type: api.Type{Kind: api.TList}}}, api.ErrInvalid},
		{declared(t, "n", "int", "success", "bool", "", "int"), api.ErrExists}, {declared(t, "", "int", "success", "bool"), api.ErrInvalid},
	} {
		for _, e := range []api.Expr{name("always"), name("unknown"), {}} {
			if err := condition.Check(e, x.decls); err != x.want {
				t.Errorf("Check(%s) with %.99v = %v, want %v", parser.Show(e), x.decls, err, x.want)
			}
		}
	}
	for _, s := range summaries {
		if err := condition.Check(name("always"), declared(t, "n", "int", s, "bool")); err != api.ErrExists {
			t.Errorf("Check with a declaration of %s = %v", s, err)
		}
	}
	for _, x := range invalid {
		if err := condition.Check(x.e, declared(t, "n", "int")); err != x.want {
			t.Errorf("Check(%.80v) = %v, want %v", x.e, err, x.want)
		}
	}
	if err := condition.Check(nested(api.MaxDepth-1), nil); err != api.ErrName {
		t.Errorf("Check of an unknown name at level %d = %v", api.MaxDepth, err)
	}
}

func list(statuses ...int) []int { return statuses }

// P17.4
func TestEval(t *testing.T) {
	all := vars(t, "n", "3", "s", `"main"`, "b", "true", "z", "null", "l", "[false]", "m", "{a: true}")
	for _, x := range []struct {
		source string
		needs  []int
		want   bool
		err    api.Errno
	}{
		{"success", nil, true, api.OK}, {"success", list(succeeded, succeeded), true, api.OK}, {"success", list(succeeded, failed), false, api.OK}, {"success", list(none), false, api.OK}, {"success", list(succeeded, 7), false, api.OK},
		{"failure", nil, false, api.OK}, {"failure", list(succeeded, failed), true, api.OK}, {"failure", list(skipped, cancelled), false, api.OK},
		{"always", nil, true, api.OK}, {"always", list(cancelled), true, api.OK}, {"!always", list(none), false, api.OK},
		{"always || n > 1", list(succeeded, failed), true, api.OK}, {"always || y", list(succeeded), true, api.OK}, {"always || n", list(succeeded), true, api.OK}, {"success && y", list(skipped), false, api.OK}, {"success && y", list(succeeded), false, api.ErrName},
		{"failure && !cancelled", list(succeeded, failed, skipped), true, api.OK}, {"failure && !cancelled", list(cancelled, failed), false, api.OK}, {"skipped ? b : l[0]", list(skipped), true, api.OK}, {"skipped ? b : l[0]", list(succeeded), false, api.OK},
		{`s == "main" && success`, list(succeeded), true, api.OK}, {"n > 3", nil, false, api.OK}, {"m.a", nil, true, api.OK}, {"b", list(failed), true, api.OK}, {"!b", list(succeeded), false, api.OK},
		{"n", nil, false, api.ErrType}, {"s", list(succeeded), false, api.ErrType}, {"z", nil, false, api.ErrType}, {"l", nil, false, api.ErrType}, {"m", nil, false, api.ErrType}, {"success ? 1 : true", list(succeeded), false, api.ErrType}, {"success ? 1 : true", list(failed), true, api.OK},
		{"y", nil, false, api.ErrName}, {"success()", nil, false, api.ErrName}, {"success + 1 == 2", nil, false, api.ErrType}, {"1 / 0 == 1", nil, false, api.ErrDivide}, {"l[1]", nil, false, api.ErrNotFound}, {"m.b", nil, false, api.ErrNotFound}, {"9007199254740992 + n > 0", nil, false, api.ErrOverflow}, {`int(s) > 0`, nil, false, api.ErrInvalid}, {"always && n", nil, false, api.ErrType},
	} {
		if got, err := condition.Eval(parsed(t, x.source), x.needs, all); got != x.want || err != x.err {
			t.Errorf("%s for %v = %v, %v, want %v, %v", x.source, x.needs, got, err, x.want, x.err)
		}
	}
}

// P17.4: the errors of the environment are before those of the expression, and these before those of its value.
func TestEvalErrors(t *testing.T) {
	most, _ := numbered(api.MaxList - 5)
	more, _ := numbered(api.MaxList - 4)
	many, _ := numbered(api.MaxList + 1)
	if got, err := condition.Eval(name("always"), nil, most); !got || err != api.OK {
		t.Errorf("as many variables as may be: %v", err)
	}
	for _, x := range []struct {
		vars []api.Var
		want api.Errno
	}{
		{more, api.ErrTooLong}, {many, api.ErrTooLong}, {vars(t, "n", "1", "n", "1"), api.ErrExists}, {vars(t, "a-b", "1"), api.ErrInvalid}, {vars(t, "", "true"), api.ErrInvalid},
		{[]api.Var{{Name: "n", Value: number(math.MaxInt)}}, api.ErrRange}, {[]api.Var{{Name: "success", Value: number(math.MinInt)}}, api.ErrRange}, {[]api.Var{{Name: "n", Value: api.Value{Kind: 6}}}, api.ErrInvalid},
		{vars(t, "n", "1", "failure", "true", "", "1"), api.ErrExists}, {vars(t, "", "1", "failure", "true"), api.ErrInvalid},
	} {
		for _, e := range []api.Expr{name("always"), name("unknown"), {}} {
			if got, err := condition.Eval(e, list(failed), x.vars); got || err != x.want {
				t.Errorf("%s with %.99v = %v, %v, want %v", parser.Show(e), x.vars, got, err, x.want)
			}
		}
	}
	for _, s := range summaries {
		if got, err := condition.Eval(name("always"), nil, vars(t, "n", "1", s, "true")); got || err != api.ErrExists {
			t.Errorf("Eval with a variable %s = %v, %v", s, got, err)
		}
	}
	for _, x := range invalid {
		if got, err := condition.Eval(x.e, list(succeeded), vars(t, "n", "1")); got || err != x.want {
			t.Errorf("%.80v = %v, %v, want %v", x.e, got, err, x.want)
		}
	}
}

// P17.5
func TestConsequences(t *testing.T) {
	holds := func(source string, needs []int) bool {
		got, err := condition.Eval(parsed(t, source), needs, nil)
		return got && err == api.OK
	}
	known := list(succeeded, failed, skipped, cancelled)
	for _, needs := range statusLists(3) {
		backward := slices.Clone(needs)
		slices.Reverse(backward)
		for _, same := range [][]int{backward, slices.Concat(needs, needs, backward)} {
			if !reflect.DeepEqual(condition.Env(needs, nil), condition.Env(same, nil)) {
				t.Errorf("the summaries of %v and %v differ", needs, same)
			}
		}
		runs, err := condition.Eval(condition.Default(), needs, nil)
		if want := !slices.ContainsFunc(needs, func(status int) bool { return status != succeeded }); runs != want || err != api.OK {
			t.Errorf("Default of %v = %v, %v", needs, runs, err)
		}
		if holds("success && (failure || cancelled || skipped)", needs) {
			t.Errorf("success of %v is not alone", needs)
		}
		if !slices.ContainsFunc(needs, func(status int) bool { return !slices.Contains(known, status) }) && !holds("success || failure || cancelled || skipped", needs) {
			t.Errorf("no summary of %v is true", needs)
		}
	}
}

// strict reports whether no type of an expression or of a part of it contains any.
func strict(e api.Expr, env []api.Decl) bool {
	u, err := check.Expr(e, env)
	return err == api.OK && !strings.Contains(typing.Show(u), "any") && !slices.ContainsFunc(e.Args, func(arg api.Expr) bool { return !strict(arg, env) })
}

// conditions are expressions of several kinds that have some of two expressions as args.
func conditions(a, b api.Expr) []api.Expr {
	all := []api.Expr{
		{Kind: api.EUnary, Name: "!", Args: []api.Expr{a}}, {Kind: api.EUnary, Name: "-", Args: []api.Expr{a}}, {Kind: api.EIndex, Args: []api.Expr{a, b}},
		{Kind: api.EMember, Name: "a", Args: []api.Expr{a}}, {Kind: api.EList, Args: []api.Expr{a, b}}, {Kind: api.ECond, Args: []api.Expr{a, b, a}},
		{Kind: api.ECall, Name: "default", Args: []api.Expr{a, b}}, {Kind: api.ECall, Name: "contains", Args: []api.Expr{a, b}},
	}
	for _, operator := range strings.Fields("|| && == < + /") {
		all = append(all, api.Expr{Kind: api.EBinary, Name: operator, Args: []api.Expr{a, b}})
	}
	return all
}

// P17.6: all conditions of two levels, and some of three, over values of all kinds, once with their own types and once as any.
func TestSound(t *testing.T) {
	all := vars(t, "n", "0", "s", `"a"`, "z", "null", "l", "[true, false]", "m", "{a: 1}", "e", "[]", "h", `[true, "a"]`)
	var own, loose []api.Decl
	atoms := []api.Expr{lit(number(0)), lit(api.Value{Kind: api.VBool, Bool: true})}
	for _, v := range all {
		own = append(own, api.Decl{Name: v.Name, Type: typing.Of(v.Value)})
		loose = append(loose, api.Decl{Name: v.Name})
		atoms = append(atoms, name(v.Name))
	}
	for _, s := range summaries {
		atoms = append(atoms, name(s))
	}
	var pool []api.Expr
	for _, a := range atoms {
		for _, b := range atoms {
			pool = append(pool, conditions(a, b)...)
		}
	}
	for i := range 4000 {
		pool = append(pool, conditions(pool[i*7%2000], pool[i*13%1999])...)
	}
	sound := 0
	for _, e := range append(pool, atoms...) {
		for _, decls := range [][]api.Decl{own, loose} {
			if condition.Check(e, decls) == api.OK {
				expectSound(t, e, all, decls)
				sound++
			}
		}
	}
	if sound < 1000 {
		t.Errorf("only %d conditions are accepted", sound)
	}
}

// expectSound evaluates a condition that Check accepts.
func expectSound(t *testing.T, e api.Expr, all []api.Var, decls []api.Decl) {
	t.Helper()
	for _, needs := range [][]int{nil, {succeeded, failed}, {skipped, cancelled}} {
		_, err := condition.Eval(e, needs, all)
		if err == api.ErrName || err == api.ErrType && strict(e, withSummaries(decls)) {
			t.Errorf("%s for %v: %v, with %v", parser.Show(e), needs, err, decls)
		}
	}
}

// withSummaries returns the declarations of a condition.
func withSummaries(decls []api.Decl) []api.Decl {
	all := slices.Clone(decls)
	for _, s := range summaries {
		all = append(all, api.Decl{Name: s, Type: api.Type{Kind: api.TBool}})
	}
	return all
}
