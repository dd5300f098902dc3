package eval_test

import (
	"math"
	"slices"
	"strconv"
	"strings"
	"testing"

	"pipeline/api"
	"pipeline/eval"
	"pipeline/parser"
	"pipeline/value"
)

func null() api.Value { return api.Value{} }

func truth(b bool) api.Value { return api.Value{Kind: api.VBool, Bool: b} }

func number(n int) api.Value { return api.Value{Kind: api.VInt, Int: n} }

func str(s string) api.Value { return api.Value{Kind: api.VString, Str: s} }

func listed(elements ...api.Value) api.Value { return api.Value{Kind: api.VList, List: elements} }

func lit(v api.Value) api.Expr { return api.Expr{Kind: api.ELit, Value: v} }

func name(s string) api.Expr { return api.Expr{Kind: api.EName, Name: s} }

func list(args ...api.Expr) api.Expr { return api.Expr{Kind: api.EList, Args: args} }

func binary(operator string, args ...api.Expr) api.Expr {
	return api.Expr{Kind: api.EBinary, Name: operator, Args: args}
}

func call(name string, args ...api.Expr) api.Expr {
	return api.Expr{Kind: api.ECall, Name: name, Args: args}
}

// nested returns e in so many lists.
func nested(e api.Expr, lists int) api.Expr {
	for range lists {
		e = list(e)
	}
	return e
}

// deep returns a value of so many levels.
func deep(levels int) api.Value {
	v := number(1)
	for range levels - 1 {
		v = listed(v)
	}
	return v
}

func parsed(t *testing.T, source string) api.Expr {
	t.Helper()
	e, _, err := parser.Parse(source)
	if err != api.OK {
		t.Fatalf("Parse(%s): %v", source, err)
	}
	return e
}

// vars returns an environment of names, each followed by the source of its value.
func vars(t *testing.T, words ...string) []api.Var {
	t.Helper()
	var env []api.Var
	for i := 0; i < len(words); i += 2 {
		v, err := eval.Expr(parsed(t, words[i+1]), nil)
		if err != api.OK {
			t.Fatalf("%s: %v", words[i+1], err)
		}
		env = append(env, api.Var{Name: words[i], Value: v})
	}
	return env
}

// numbered returns so many variables of different names.
func numbered(count int) []api.Var {
	env := make([]api.Var, count)
	for i := range env {
		env[i] = api.Var{Name: "v" + strconv.Itoa(i), Value: number(i)}
	}
	return env
}

var invalidEnvs = map[string]struct {
	env   []api.Var
	error api.Errno
}{
	"too long":                      {numbered(api.MaxList + 1), api.ErrTooLong},
	"too long before its elements":  {append(numbered(api.MaxList), api.Var{Value: number(math.MaxInt)}), api.ErrTooLong},
	"empty name":                    {[]api.Var{{}}, api.ErrInvalid},
	"true":                          {[]api.Var{{Name: "true"}}, api.ErrInvalid},
	"false":                         {[]api.Var{{Name: "false"}}, api.ErrInvalid},
	"null":                          {[]api.Var{{Name: "null"}}, api.ErrInvalid},
	"digit":                         {[]api.Var{{Name: "1a"}}, api.ErrInvalid},
	"blank":                         {[]api.Var{{Name: " a"}}, api.ErrInvalid},
	"comment":                       {[]api.Var{{Name: "a#"}}, api.ErrInvalid},
	"hyphen":                        {[]api.Var{{Name: "a-b"}}, api.ErrInvalid},
	"byte":                          {[]api.Var{{Name: "a\xff"}}, api.ErrInvalid},
	"long name":                     {[]api.Var{{Name: strings.Repeat("n", api.MaxName+1)}}, api.ErrInvalid},
	"very long name":                {[]api.Var{{Name: strings.Repeat("n", api.MaxSource+9)}}, api.ErrInvalid},
	"kind 6":                        {[]api.Var{{Name: "a", Value: api.Value{Kind: 6}}}, api.ErrInvalid},
	"field":                         {[]api.Var{{Name: "a", Value: api.Value{Kind: api.VInt, Str: "a"}}}, api.ErrInvalid},
	"number":                        {[]api.Var{{Name: "a", Value: number(api.MaxNumber + 1)}}, api.ErrRange},
	"string":                        {[]api.Var{{Name: "a", Value: str(strings.Repeat("a", api.MaxString+1))}}, api.ErrTooLong},
	"element":                       {[]api.Var{{Name: "a", Value: listed(listed(number(-api.MaxNumber - 1)))}}, api.ErrRange},
	"keys":                          {[]api.Var{{Name: "a", Value: api.Value{Kind: api.VMap, Keys: []string{"b", "a"}, List: make([]api.Value, 2)}}}, api.ErrInvalid},
	"levels":                        {[]api.Var{{Name: "a", Value: deep(17)}}, api.ErrDepth},
	"same name":                     {[]api.Var{{Name: "a"}, {Name: "a"}}, api.ErrExists},
	"same name, not in a row":       {[]api.Var{{Name: "a"}, {Name: "b"}, {Name: "a", Value: number(1)}}, api.ErrExists},
	"name before value":             {[]api.Var{{Name: "null", Value: deep(17)}}, api.ErrInvalid},
	"value before same name":        {[]api.Var{{Name: "a"}, {Name: "a", Value: deep(17)}}, api.ErrDepth},
	"the first one: same name":      {[]api.Var{{Name: "a"}, {Name: "a"}, {Name: "b", Value: deep(17)}}, api.ErrExists},
	"the first one: value":          {[]api.Var{{Name: "a"}, {Name: "b", Value: deep(17)}, {Name: "a"}, {}}, api.ErrDepth},
	"the first one: name":           {[]api.Var{{Name: "a"}, {}, {Name: "b", Value: deep(17)}}, api.ErrInvalid},
	"the last of as many as may be": {append(numbered(api.MaxList-1), api.Var{Name: "v0"}), api.ErrExists},
}

// P12.1
func TestEnv(t *testing.T) {
	for _, env := range [][]api.Var{
		nil, {}, numbered(1), numbered(api.MaxList), {{Name: "a"}, {Name: "A", Value: deep(16)}, {Name: "_", Value: str(strings.Repeat("\xff", api.MaxString))}, {Name: "True"}, {Name: "len"}},
		{{Name: strings.Repeat("n", api.MaxName), Value: number(-api.MaxNumber)}},
	} {
		if err := eval.Env(env); err != api.OK {
			t.Errorf("Env of %d variables = %v", len(env), err)
		}
	}
	for name, x := range invalidEnvs {
		if err := eval.Env(x.env); err != x.error {
			t.Errorf("Env(%s) = %v, want %v", name, err, x.error)
		}
	}
}

// expectError checks that the evaluation of an expression returns an error, and no value with it.
func expectError(t *testing.T, e api.Expr, env []api.Var, want api.Errno) {
	t.Helper()
	v, err := eval.Expr(e, env)
	if err != want || v.Kind != api.VNull || value.Valid(v) != api.OK {
		t.Errorf("%.200s = %s, %v, want %v", parser.Show(e), value.Show(v), err, want)
	}
}

// expectValue checks the value of an expression.
func expectValue(t *testing.T, e api.Expr, env []api.Var, want api.Value) {
	t.Helper()
	v, err := eval.Expr(e, env)
	if err != api.OK || value.Valid(v) != api.OK || !value.Equal(v, want) {
		t.Errorf("%.200s = %.200s, %v, want %.200s", parser.Show(e), value.Show(v), err, value.Show(want))
	}
}

// invalid are expressions that are not valid, with their errors.
var invalid = []struct {
	e     api.Expr
	error api.Errno
}{
	{api.Expr{}, api.ErrInvalid},
	{list(name("unknown"), api.Expr{}), api.ErrInvalid},
	{binary("||", lit(truth(true)), name("null")), api.ErrInvalid},
	{list(name("unknown"), nested(name("unknown"), 15)), api.ErrDepth},
	{list(name("unknown"), lit(number(math.MaxInt))), api.ErrRange},
	{list(slices.Repeat([]api.Expr{name("unknown")}, api.MaxList+1)...), api.ErrTooLong},
	{api.Expr{Kind: api.EMap, Keys: []string{"a", "a"}, Args: []api.Expr{name("unknown"), name("unknown")}}, api.ErrExists},
	{list(slices.Repeat([]api.Expr{name("unknown")}, api.MaxNodes)...), api.ErrLimit},
	{nested(name("unknown"), 1<<16-1), api.ErrLimit},
	{lit(deep(17)), api.ErrDepth},
}

// P12.2: the errors of the environment are before those of the expression, and these before those of its evaluation.
func TestOrderOfErrors(t *testing.T) {
	for _, x := range invalidEnvs {
		for _, e := range []api.Expr{{}, lit(null()), name("unknown")} {
			expectError(t, e, x.env, x.error)
		}
	}
	for _, x := range invalid {
		expectError(t, x.e, nil, x.error)
	}
	expectError(t, list(slices.Repeat([]api.Expr{name("unknown")}, api.MaxList)...), nil, api.ErrName)
	expectError(t, nested(name("unknown"), 15), nil, api.ErrName)
}

// environment declares a variable of each kind.
func environment(t *testing.T) []api.Var {
	return vars(t, "z", "null", "b", "true", "n", "3", "s", `"aXbXXc"`, "l", "[5, 7]", "m", "{k: 9, j10: null, j9: [1]}", "len", `"a name"`)
}

// P12.2: an expression for each rule.
func TestExpr(t *testing.T) {
	for source, want := range map[string]string{
		// Literals and names.
		"null": "null", "false": "false", "9007199254740992": "9007199254740992", `"a\x00"`: `"a\x00"`, "n": "3", "z": "null", "m": `{"j9": [1], "j10": null, "k": 9}`, "len": `"a name"`,
		// Members and indexes.
		"m.k": "9", "m.j10": "null", "m.j9[0]": "1", `m["k"]`: "9", `m["j9"]`: "[1]", "l[0]": "5", "l[1]": "7", "l[n - 2]": "7", "{a: {b: 2}}.a.b": "2", `{"a b": 1}["a b"]`: "1", "[[1], [2]][1][0]": "2",
		// Operators with one operand.
		"!b": "false", "!false": "true", "!!b": "true", "-n": "-3", "--n": "3", "-9007199254740992": "-9007199254740992", "-0": "0",
		// && and ||.
		"b && false": "false", "b && b": "true", "false && b": "false", "false || b": "true", "false || false": "false", "b || false": "true",
		"false && x": "false", "true || x": "true", "false && 1": "false", "true || 1": "true", "false && 1 / 0 == 1": "false", "b || f(x)": "true", "(false && x) || b": "true", "(true || x) && b": "true",
		// Comparisons.
		"n == 3": "true", "n == 4": "false", "n != 3": "false", "n != z": "true", "null == false": "false", "null == null": "true", `"1" == 1`: "false", "[1] == [1] && {} != []": "true", "{a: 1, b: 2} == {b: 2, a: 1}": "true", "{a: 1} == {a: 2}": "false", "[] == {}": "false",
		"2 < n": "true", "n < 3": "false", "n <= 3": "true", "4 <= n": "false", "4 > n": "true", "n > 3": "false", "n >= 3": "true", "2 >= n": "false", "-2 < -1": "true",
		`"B" < "a" && "a" < "ab" && "" < "a"`: "true", `"a" < "a"`: "false", `"a" <= "a"`: "true", `"10" < "9"`: "true", `"\xff" > "z"`: "true", `"a10" >= "a9"`: "false", `"b" > "a" && "b" >= "a"`: "true",
		// Arithmetic.
		"n + 4": "7", "n - 4": "-1", "n * -4": "-12", "7 / 2": "3", "-7 / 2": "-3", "7 / -2": "-3", "-7 / -2": "3", "7 % 2": "1", "-7 % 2": "-1", "7 % -2": "1", "-7 % -2": "-1", "0 / n": "0", "0 % n": "0", "1 + 2 * 3 == 7 && !(2 > 3)": "true",
		`s + "d"`: `"aXbXXcd"`, `"" + ""`: `""`, `"\xe2" + "\x82"`: `"\xe2\x82"`, "l + [n]": "[5, 7, 3]", "[n] + l": "[3, 5, 7]", "[] + []": "[]", "l + []": "[5, 7]", "[[1]] + [null, {}]": "[[1], null, {}]",
		// Conditions.
		"b ? 1 : 2": "1", "false ? 1 : 2": "2", "b ? n : x": "3", "false ? x : n": "3", "b ? [1] : 1 / 0": "[1]", "n > 2 ? b ? 1 : 2 : 3": "1",
		// Lists and maps.
		"[]": "[]", "[n, s, [z]]": `[3, "aXbXXc", [null]]`, "{}": "{}", "{b: 1, a10: 2, a9: 3}": `{"a9": 3, "a10": 2, "b": 1}`, `{"\xff": n, "B": l, a: [b]}`: `{"B": [5, 7], "a": [true], "\xff": 3}`,
		// Functions.
		"len(s)": "6", "len(l)": "2", "len(m)": "3", `len("")`: "0", "len([])": "0", "len({})": "0", `len("\xe2\x82\xac")`: "3", "len([[1, 2, 3]])": "1",
		"keys(m)": `["j9", "j10", "k"]`, "keys({})": "[]", "contains(l, 7)": "true", "contains(l, 8)": "false", `contains(l, "7")`: "false", "contains([[1], {}], [1])": "true", "contains([], null)": "false", "contains([null], null)": "true", "contains([[7]], 7)": "false",
		`contains(s, "XX")`: "true", `contains(s, "XXX")`: "false", `contains(s, "")`: "true", `contains("", "a")`: "false", `contains(m, "k")`: "true", `contains(m, "9")`: "false", `contains(m, "")`: "false", `contains("a", "ab")`: "false",
		`join([], s)`: `""`, `join(["a", "b"], ", ")`: `"a, b"`, `join(["a"], s)`: `"a"`, `join(["", "", ""], "-")`: `"--"`, `join(["a", "b"], "")`: `"ab"`,
		`split(s, "X")`: `["a", "b", "", "c"]`, `split("", ",")`: `[""]`, `split("aaa", "aa")`: `["", "a"]`, `split("a,b,,c", ",")`: `["a", "b", "", "c"]`, `split(",", ",")`: `["", ""]`, `split("a", "ab")`: `["a"]`, `split("a::b:c", "::")`: `["a", "b:c"]`, `split("\xe2\x82", "\x82")`: `["\xe2", ""]`,
		`lower("AzZ[@A")`: `"azz[@a"`, "upper(\"aZz{`\")": "\"AZZ{`\"", `lower("\xc3\x84\xff")`: `"\xc3\x84\xff"`, `upper("\xc3\xa4\xff\xdf")`: `"\xc3\xa4\xff\xdf"`, `lower("")`: `""`, `upper("abcdefghijklmnopqrstuvwxyz0")`: `"ABCDEFGHIJKLMNOPQRSTUVWXYZ0"`, `lower("ABCDEFGHIJKLMNOPQRSTUVWXYZ0")`: `"abcdefghijklmnopqrstuvwxyz0"`,
		`startswith(s, "aX")`: "true", `startswith(s, "Xb")`: "false", `startswith(s, "")`: "true", `startswith("a", "ab")`: "false", `startswith(s, "Xc")`: "false", `endswith(s, "Xc")`: "true", `endswith(s, "aX")`: "false", `endswith(s, "")`: "true", `endswith("b", "ab")`: "false",
		"string(-5)": `"-5"`, "string(true)": `"true"`, "string(null)": `""`, "string(s)": `"aXbXXc"`, "string(0)": `"0"`,
		`int("-12")`: "-12", `int("0")`: "0", `int("9007199254740992")`: "9007199254740992", `int("-9007199254740992")`: "-9007199254740992", `int("10")`: "10",
		"default(null, 1)": "1", "default(false, 1)": "false", "default(null, null)": "null", "default(0, 1)": "0", `default("", 1)`: `""`, "default([], 1)": "[]", "default(z, m)": `{"j9": [1], "j10": null, "k": 9}`,
	} {
		v, err := eval.Expr(parsed(t, source), environment(t))
		if err != api.OK || value.Show(v) != want {
			t.Errorf("%s is %s, %v, want %s", source, value.Show(v), err, want)
		}
	}
	expectValue(t, lit(deep(16)), nil, deep(16))
	expectValue(t, nested(lit(number(1)), 15), nil, deep(16))
}

// P12.2: the errors of each rule, and which one comes first.
func TestErrors(t *testing.T) {
	for source, want := range map[string]api.Errno{
		// Names, and that everything is evaluated from left to right.
		"x": api.ErrName, "!x": api.ErrName, "[n, x]": api.ErrName, "{a: x}": api.ErrName, "x.a": api.ErrName, "N": api.ErrName,
		"x + 1 / 0": api.ErrName, "1 / 0 + x": api.ErrDivide, "[1 / 0, x]": api.ErrDivide, "[x, 1 / 0]": api.ErrName, "{a: !n, b: x}": api.ErrType, "{b: x, a: !n}": api.ErrName, "x == !n": api.ErrName, "!n == x": api.ErrType, "!n < x": api.ErrType, "s - x": api.ErrName, "l[x]": api.ErrName, "n[x]": api.ErrName, "m.x[x]": api.ErrNotFound,
		// Members and indexes.
		"m.x": api.ErrNotFound, "m.K": api.ErrNotFound, "{}.a": api.ErrNotFound, "n.k": api.ErrType, "l.k": api.ErrType, "s.k": api.ErrType, "z.k": api.ErrType, "b.k": api.ErrType,
		"l[2]": api.ErrNotFound, "l[-1]": api.ErrNotFound, "[][0]": api.ErrNotFound, "l[9007199254740992]": api.ErrNotFound, "l[-9007199254740992]": api.ErrNotFound, `m["x"]`: api.ErrNotFound, `m[""]`: api.ErrNotFound, `m["9"]`: api.ErrNotFound,
		"m[0]": api.ErrType, `l["0"]`: api.ErrType, "l[z]": api.ErrType, "l[b]": api.ErrType, "m[l]": api.ErrType, "m[z]": api.ErrType, "s[0]": api.ErrType, `s["a"]`: api.ErrType, "n[0]": api.ErrType, `z["a"]`: api.ErrType,
		// Calls.
		"f(x)": api.ErrName, "f()": api.ErrName, "LEN(s)": api.ErrName, "len(1, x)": api.ErrInvalid, "len()": api.ErrInvalid, "contains(l)": api.ErrInvalid, "len(x)": api.ErrName, "contains(n, x)": api.ErrName, "contains(!n, x)": api.ErrType, "default(1, x)": api.ErrName, "default(x, 1 / 0)": api.ErrName, "join(n, 1 / 0)": api.ErrDivide,
		// Operators.
		"!n": api.ErrType, "!z": api.ErrType, "!s": api.ErrType, "-b": api.ErrType, "-s": api.ErrType, "-l": api.ErrType, "-z": api.ErrType,
		"x && false": api.ErrName, "x || true": api.ErrName, "1 && x": api.ErrType, "1 || x": api.ErrType, "true && 1": api.ErrType, "false || 1": api.ErrType, "z && b": api.ErrType, "b && z": api.ErrType, "b && x": api.ErrName, "false || x": api.ErrName, "s || b": api.ErrType, "false || l": api.ErrType,
		"n + s": api.ErrType, "m + m": api.ErrType, "b + b": api.ErrType, "z + z": api.ErrType, "l + n": api.ErrType, "n < s": api.ErrType, "b < b": api.ErrType, "l < l": api.ErrType, "z >= z": api.ErrType, "s - s": api.ErrType, "s * n": api.ErrType, "n % s": api.ErrType, "l / l": api.ErrType,
		"s / 0": api.ErrType, "0 / s": api.ErrType, "1 / (n - 3)": api.ErrDivide, "1 % 0": api.ErrDivide, "0 / 0": api.ErrDivide, "0 % 0": api.ErrDivide,
		// Conditions.
		"n ? 1 : 2": api.ErrType, "z ? x : x": api.ErrType, "x ? 1 : 2": api.ErrName, "b ? x : 1": api.ErrName, "false ? 1 : x": api.ErrName, "b ? 1 / 0 : 1": api.ErrDivide,
		// Functions.
		`int("007")`: api.ErrInvalid, `int("-0")`: api.ErrInvalid, `int("")`: api.ErrInvalid, `int("-")`: api.ErrInvalid, `int("+1")`: api.ErrInvalid, `int(" 1")`: api.ErrInvalid, `int("1 ")`: api.ErrInvalid, `int("1_0")`: api.ErrInvalid, `int("0x1")`: api.ErrInvalid, `int("--1")`: api.ErrInvalid, `int("1.0")`: api.ErrInvalid, `int("00")`: api.ErrInvalid,
		`int("9007199254740993")`: api.ErrInvalid, `int("-9007199254740993")`: api.ErrInvalid, `int("9223372036854775808")`: api.ErrInvalid, `int("99999999999999999999999999")`: api.ErrInvalid, `int("-99999999999999999999999999")`: api.ErrInvalid,
		`split(s, "")`: api.ErrInvalid, `split("", "")`: api.ErrInvalid, `split(n, "")`: api.ErrType, "join([1], s)": api.ErrType, `join(["a", 1], s)`: api.ErrType, `join([], 1)`: api.ErrType, `join(["a", z], s)`: api.ErrType,
	} {
		expectError(t, parsed(t, source), environment(t), want)
	}
}

// kinds are values of all kinds by the letters of their kinds.
var kinds = map[string]api.Value{
	"n": null(), "b": truth(true), "i": number(1), "s": str("7"), "l": listed(str("7"), str("")), "m": {Kind: api.VMap, Keys: []string{"7"}, List: []api.Value{number(7)}},
}

// P12.2: operators and functions, each with the kinds of args that it permits.
func TestKinds(t *testing.T) {
	permitted := map[string]string{
		"!": "b", "-": "i", ".": "m", "len": "s l m", "lower": "s", "upper": "s", "string": "n b i s", "int": "s", "keys": "m",
		"1 < 2": "ii ss", "1 <= 2": "ii ss", "1 > 2": "ii ss", "1 >= 2": "ii ss", "1 + 2": "ii ss ll", "1 - 2": "ii", "1 * 2": "ii", "1 / 2": "ii", "1 % 2": "ii", "1 && 2": "bb", "1 == 2": "*", "1 != 2": "*", "1 [] 2": "li ms",
		"2 contains": "ln lb li ls ll lm ss ms", "2 join": "ls", "2 split": "ss", "2 startswith": "ss", "2 endswith": "ss", "2 default": "*",
	}
	for form, args := range permitted {
		for first, a := range kinds {
			if e, ok := ofOne(form, a); ok {
				expectKinds(t, e, args == "*" || slices.Contains(strings.Fields(args), first))
				continue
			}
			for second, b := range kinds {
				expectKinds(t, ofTwo(form, a, b), args == "*" || slices.Contains(strings.Fields(args), first+second))
			}
		}
	}
}

func expectKinds(t *testing.T, e api.Expr, permitted bool) {
	t.Helper()
	v, err := eval.Expr(e, nil)
	if permitted && err != api.OK || !permitted && err != api.ErrType {
		t.Errorf("%s = %s, %v", parser.Show(e), value.Show(v), err)
	}
}

// ofOne returns the expression of a form with one arg, if it is one.
func ofOne(form string, a api.Value) (api.Expr, bool) {
	switch {
	case form == "!" || form == "-":
		return api.Expr{Kind: api.EUnary, Name: form, Args: []api.Expr{lit(a)}}, true
	case form == ".":
		v := api.Expr{Kind: api.EMember, Name: "a", Args: []api.Expr{lit(a)}}
		if a.Kind == api.VMap {
			v.Args[0] = lit(api.Value{Kind: api.VMap, Keys: []string{"a"}, List: []api.Value{number(1)}})
		}
		return v, true
	}
	return call(form, lit(a)), !strings.Contains(form, " ")
}

// ofTwo returns the expression of a form with two args.
func ofTwo(form string, a, b api.Value) api.Expr {
	words := strings.Fields(form)
	switch {
	case len(words) == 2:
		return call(words[1], lit(a), lit(b))
	case words[1] == "[]":
		return api.Expr{Kind: api.EIndex, Args: []api.Expr{lit(a), lit(b)}}
	}
	return binary(words[1], lit(a), lit(b))
}
