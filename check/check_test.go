package check_test

import (
	"math"
	"slices"
	"strconv"
	"strings"
	"testing"

	"pipeline/api"
	"pipeline/check"
	"pipeline/parser"
	"pipeline/typing"
)

func name(s string) api.Expr { return api.Expr{Kind: api.EName, Name: s} }

func list(args ...api.Expr) api.Expr { return api.Expr{Kind: api.EList, Args: args} }

func lit(v api.Value) api.Expr { return api.Expr{Kind: api.ELit, Value: v} }

// nested returns e in so many lists.
func nested(e api.Expr, lists int) api.Expr {
	for range lists {
		e = list(e)
	}
	return e
}

func parsed(t *testing.T, source string) api.Expr {
	t.Helper()
	e, _, err := parser.Parse(source)
	if err != api.OK {
		t.Fatalf("Parse(%s): %v", source, err)
	}
	return e
}

func typed(t *testing.T, text string) api.Type {
	t.Helper()
	u, err := typing.Parse(text)
	if err != api.OK {
		t.Fatalf("Parse(%s): %v", text, err)
	}
	return u
}

// declared returns an environment of names, each followed by its type.
func declared(t *testing.T, words ...string) []api.Decl {
	t.Helper()
	var env []api.Decl
	for i := 0; i < len(words); i += 2 {
		env = append(env, api.Decl{Name: words[i], Type: typed(t, words[i+1])})
	}
	return env
}

// numbered returns so many declarations of different names.
func numbered(count int) []api.Decl {
	env := make([]api.Decl, count)
	for i := range env {
		env[i] = api.Decl{Name: "v" + strconv.Itoa(i), Type: api.Type{Kind: api.TInt}}
	}
	return env
}

// deep returns a text of a type with so many levels.
func deep(element string, levels int) string {
	return strings.Repeat("list(", levels-1) + element + strings.Repeat(")", levels-1)
}

func decl(name string, kind int, elem ...api.Type) api.Decl {
	return api.Decl{Name: name, Type: api.Type{Kind: kind, Elem: elem}}
}

// invalidEnvs are environments with the errors of their first invalid declaration.
func invalidEnvs(t *testing.T) map[string]struct {
	env   []api.Decl
	error api.Errno
} {
	deepest := api.Decl{Name: "d", Type: api.Type{Kind: api.TList, Elem: []api.Type{typed(t, deep("int", 16))}}}
	n := decl("n", api.TInt)
	return map[string]struct {
		env   []api.Decl
		error api.Errno
	}{
		"too long":                      {numbered(api.MaxList + 1), api.ErrTooLong},
		"too long before its elements":  {append(numbered(api.MaxList), decl("", 99)), api.ErrTooLong},
		"empty name":                    {[]api.Decl{decl("", api.TInt)}, api.ErrInvalid},
		"true":                          {[]api.Decl{decl("true", api.TInt)}, api.ErrInvalid},
		"false":                         {[]api.Decl{decl("false", api.TInt)}, api.ErrInvalid},
		"null":                          {[]api.Decl{decl("null", api.TInt)}, api.ErrInvalid},
		"digit":                         {[]api.Decl{decl("1a", api.TInt)}, api.ErrInvalid},
		"blank":                         {[]api.Decl{decl("a ", api.TInt)}, api.ErrInvalid},
		"comment":                       {[]api.Decl{decl("a#", api.TInt)}, api.ErrInvalid},
		"point":                         {[]api.Decl{decl("a.b", api.TInt)}, api.ErrInvalid},
		"accent":                        {[]api.Decl{decl("é", api.TInt)}, api.ErrInvalid},
		"long name":                     {[]api.Decl{decl(strings.Repeat("n", api.MaxName+1), api.TInt)}, api.ErrInvalid},
		"very long name":                {[]api.Decl{decl(strings.Repeat("n", api.MaxSource+9), api.TInt)}, api.ErrInvalid},
		"kind 8":                        {[]api.Decl{decl("a", 8)}, api.ErrInvalid},
		"kind -1":                       {[]api.Decl{decl("a", -1)}, api.ErrInvalid},
		"list without element":          {[]api.Decl{decl("a", api.TList)}, api.ErrInvalid},
		"int with element":              {[]api.Decl{decl("a", api.TInt, n.Type)}, api.ErrInvalid},
		"deep type":                     {[]api.Decl{deepest}, api.ErrDepth},
		"same name":                     {[]api.Decl{n, n}, api.ErrExists},
		"same name, not in a row":       {[]api.Decl{n, decl("m", api.TInt), decl("n", api.TAny)}, api.ErrExists},
		"name before type":              {[]api.Decl{{Name: "true", Type: deepest.Type}}, api.ErrInvalid},
		"type before same name":         {[]api.Decl{n, {Name: "n", Type: deepest.Type}}, api.ErrDepth},
		"the first one: same name":      {[]api.Decl{n, n, deepest}, api.ErrExists},
		"the first one: type":           {[]api.Decl{n, deepest, n, decl("", 9)}, api.ErrDepth},
		"the first one: name":           {[]api.Decl{n, decl("", api.TInt), deepest}, api.ErrInvalid},
		"the last of as many as may be": {append(numbered(api.MaxList-1), decl("v0", api.TInt)), api.ErrExists},
	}
}

// P11.1
func TestEnv(t *testing.T) {
	for _, env := range [][]api.Decl{
		nil, {}, numbered(1), numbered(api.MaxList), declared(t, "a", "any", "A", "never", "_", "list(map(never))", "True", deep("int", 16), "len", "null"),
		{decl(strings.Repeat("n", api.MaxName), api.TInt, []api.Type{}...)},
	} {
		if err := check.Env(env); err != api.OK {
			t.Errorf("Env of %d declarations = %v", len(env), err)
		}
	}
	for name, x := range invalidEnvs(t) {
		if err := check.Env(x.env); err != x.error {
			t.Errorf("Env(%s) = %v, want %v", name, err, x.error)
		}
	}
}

// P11.2: the errors of the environment are before those of the expression, and these before those of its type.
func TestOrderOfErrors(t *testing.T) {
	for name, x := range invalidEnvs(t) {
		for _, e := range []api.Expr{{}, lit(api.Value{}), list(api.Expr{Kind: api.EName, Name: "unknown"})} {
			if u, err := check.Expr(e, x.env); err != x.error || u.Kind != api.TAny || len(u.Elem) > 0 {
				t.Errorf("Expr(%+v) in %s = %v, %v, want %v", e, name, u, err, x.error)
			}
		}
	}
	unknown := name("unknown")
	for _, x := range []struct {
		e     api.Expr
		error api.Errno
	}{
		{list(unknown, api.Expr{}), api.ErrInvalid},
		{list(unknown, name("null")), api.ErrInvalid},
		{list(unknown, nested(unknown, 15)), api.ErrDepth},
		{list(unknown, lit(api.Value{Kind: api.VInt, Int: math.MaxInt})), api.ErrRange},
		{list(slices.Repeat([]api.Expr{unknown}, api.MaxList+1)...), api.ErrTooLong},
		{api.Expr{Kind: api.EMap, Keys: []string{"a", "a"}, Args: []api.Expr{unknown, unknown}}, api.ErrExists},
		{list(slices.Repeat([]api.Expr{unknown}, api.MaxNodes)...), api.ErrLimit},
		{nested(unknown, 1<<16-1), api.ErrLimit},
		{list(slices.Repeat([]api.Expr{unknown}, api.MaxList)...), api.ErrName},
		{nested(unknown, 15), api.ErrName},
	} {
		if u, err := check.Expr(x.e, nil); err != x.error || u.Kind != api.TAny || len(u.Elem) > 0 {
			t.Errorf("Expr(%.80v) = %v, %v, want %v", x.e, u, err, x.error)
		}
	}
}

// env declares the names that the sources below use: the first letter of a name is that of its type.
func env(t *testing.T) []api.Decl {
	return declared(t,
		"z", "null", "b", "bool", "n", "int", "s", "string", "x", "any", "v", "never",
		"ln", "list(int)", "ls", "list(string)", "lx", "list(any)", "lv", "list(never)", "lln", "list(list(int))", "llx", "list(list(any))",
		"mn", "map(int)", "ms", "map(string)", "mx", "map(any)", "mv", "map(never)", "mln", "map(list(int))",
		"d15", deep("int", 15), "d16", deep("int", 16), "e16", deep("never", 16), "f16", deep("string", 16), "len", "bool",
	)
}

// P11.2: an expression for each rule.
func TestExpr(t *testing.T) {
	sources := map[string]string{
		// Literals and names.
		"null": "null", "true": "bool", "7": "int", `"a"`: "string", "len": "bool", "x": "any", "v": "never", "lln": "list(list(int))", "d16": deep("int", 16),
		// Members.
		"mn.a": "int", "mln.a": "list(int)", "mx.a": "any", "mv.a": "never", "x.a": "any", "v.a": "never", "x.a.b": "any", "v.a.b": "never", "{a: 1}.b": "int",
		// Indexes.
		"ln[n]": "int", "ln[x]": "int", "ln[v]": "int", "lln[0]": "list(int)", "lv[0]": "never", "lx[0]": "any", "lln[0][0]": "int", "d16[0]": deep("int", 15),
		"mn[s]": "int", "mn[x]": "int", "mn[v]": "int", `mv["a"]`: "never", "x[n]": "any", "x[s]": "any", "x[x]": "any", "x[v]": "any", "v[n]": "never", "v[s]": "never", "v[x]": "never", "[][0]": "never",
		// Operators with one operand.
		"!b": "bool", "!x": "bool", "!v": "bool", "-n": "int", "-x": "int", "-v": "int", "!!b": "bool", "--1": "int",
		// Operators with two operands.
		"b && b": "bool", "x && v": "bool", "v || b": "bool", "z == n": "bool", "ln != mx": "bool", "x == v": "bool",
		"n < n": "bool", "s <= s": "bool", "x > n": "bool", "s >= v": "bool", "x < x": "bool", "x < v": "bool", "v < v": "bool",
		"n - n": "int", "x * n": "int", "n / v": "int", "x % v": "int", "v - v": "int",
		"n + n": "int", "n + x": "int", "v + n": "int", "s + s": "string", "x + s": "string", "s + v": "string", "x + x": "any", "x + v": "any", "v + x": "any", "v + v": "never",
		"ln + ln": "list(int)", "ln + ls": "list(any)", "ln + lv": "list(int)", "lv + ln": "list(int)", "ln + x": "list(any)", "x + ln": "list(any)", "ln + v": "list(int)", "v + ln": "list(int)",
		"lv + x": "list(any)", "lv + v": "list(never)", "lln + lv": "list(list(int))", "lln + llx": "list(list(any))", "lln + ln": "list(any)", "d16 + e16": deep("int", 16), "d16 + f16": deep("any", 16),
		// Conditions.
		"b ? n : n": "int", "b ? n : s": "any", "x ? ln : []": "list(int)", "v ? v : s": "string", "b ? lln : llx": "list(list(any))", "b ? v : v": "never", "b ? mn : ln": "any", "b ? x : v": "any",
		// Lists and maps.
		"[]": "list(never)", "[n]": "list(int)", "[n, s]": "list(any)", "[v]": "list(never)", "[v, n, v]": "list(int)", "[ln, []]": "list(list(int))", "[[], [1], [x]]": "list(list(any))", "[ln, mn]": "list(any)",
		"{}": "map(never)", "{a: n, b: 1}": "map(int)", "{a: n, b: s}": "map(any)", "{a: ln, b: []}": "map(list(int))", "{a: {b: {c: 1}}}": "map(map(map(int)))",
		"[d15]": deep("int", 16), "{a: d15}": "map(" + deep("int", 15) + ")", "[d16, n]": "list(any)", "{a: d16, b: s}": "map(any)", "[d15, e16[0]]": deep("int", 16),
		// Functions.
		"len(s) + len(ln) + len(mn) + len(x) + len(v) + len(lv)": "int", "keys(mn) + keys(x)": "list(string)", "keys(mv) + keys(v)": "list(string)",
		"contains(ln, s)": "bool", "contains(ln, ln)": "bool", "contains(s, s)": "bool", "contains(s, x)": "bool", "contains(mn, s)": "bool", "contains(mn, v)": "bool", "contains(x, n)": "bool", "contains(v, ln)": "bool",
		"join(ls, s)": "string", "join(lx, s)": "string", "join(lv, x)": "string", "join(x, v)": "string", "split(s, s)": "list(string)", "split(x, v)": "list(string)",
		"lower(s)": "string", "upper(x)": "string", "lower(v)": "string", "startswith(s, x)": "bool", "endswith(v, s)": "bool", "int(s)": "int", "int(x)": "int", "int(v)": "int",
		"string(z)": "string", "string(b)": "string", "string(n)": "string", "string(s)": "string", "string(x)": "string", "string(v)": "string",
		"default(z, n)": "int", "default(z, ln)": "list(int)", "default(z, z)": "null", "default(n, s)": "int", "default(x, n)": "any", "default(v, n)": "never", "default(ln, z)": "list(int)", "default(z, x)": "any",
		// The examples of the chapter.
		`n + 1 > 2 && !(n == "x")`: "bool", `[1, "a"]`: "list(any)", `[1, "a"][0] + 1`: "int", `x ? 1 : "a"`: "any", `join([1, "a"], ",")`: "string",
	}
	for source, want := range sources {
		u, err := check.Expr(parsed(t, source), env(t))
		if err != api.OK || typing.Show(u) != want {
			t.Errorf("the type of %s is %s, %v, want %s", source, typing.Show(u), err, want)
		}
	}
	listed := api.Value{Kind: api.VList, List: []api.Value{{Kind: api.VList}, {Kind: api.VList, List: []api.Value{{Kind: api.VInt, Int: 1}}}}}
	if u, err := check.Expr(lit(listed), nil); err != api.OK || typing.Show(u) != "list(list(int))" {
		t.Errorf("the type of a literal list is %s, %v", typing.Show(u), err)
	}
}

// P11.2: the errors of each rule, and which one comes first.
func TestErrors(t *testing.T) {
	sources := map[string]api.Errno{
		// Names.
		"y": api.ErrName, "!y": api.ErrName, "y.a": api.ErrName, "[n, y]": api.ErrName, "{a: y}": api.ErrName, "LEN": api.ErrName, "b ? n : y": api.ErrName, "b ? y : n": api.ErrName, "b && y": api.ErrName, "false && y": api.ErrName,
		// Members and indexes.
		"n.a": api.ErrType, "s.a": api.ErrType, "ln.a": api.ErrType, "z.a": api.ErrType, "b.a": api.ErrType,
		"ln[s]": api.ErrType, "ln[z]": api.ErrType, "ln[b]": api.ErrType, "ln[ln]": api.ErrType, "mn[n]": api.ErrType, "mn[ms]": api.ErrType, "mn[z]": api.ErrType,
		"x[b]": api.ErrType, "x[z]": api.ErrType, "x[ln]": api.ErrType, "v[b]": api.ErrType, "v[mn]": api.ErrType, "s[0]": api.ErrType, "n[0]": api.ErrType, "b[x]": api.ErrType, "z[v]": api.ErrType,
		"y[0]": api.ErrName, "n[y]": api.ErrName, "ln[y]": api.ErrName, "n.a[y]": api.ErrType,
		// Calls.
		"f()": api.ErrName, "f(y)": api.ErrName, "Len(s)": api.ErrName, "not(b)": api.ErrName, "b()": api.ErrName,
		"len()": api.ErrInvalid, "len(s, s)": api.ErrInvalid, "len(y, y)": api.ErrInvalid, "contains(s)": api.ErrInvalid, "contains(s, s, s)": api.ErrInvalid, "join(ls)": api.ErrInvalid, "join(ls, s, s)": api.ErrInvalid,
		"string()": api.ErrInvalid, "string(s, s)": api.ErrInvalid, "lower()": api.ErrInvalid, "lower(s, s)": api.ErrInvalid, "upper()": api.ErrInvalid, "upper(s, s)": api.ErrInvalid, "split(s)": api.ErrInvalid, "split(s, s, s)": api.ErrInvalid,
		"startswith(s)": api.ErrInvalid, "endswith(s)": api.ErrInvalid, "int()": api.ErrInvalid, "int(s, n)": api.ErrInvalid, "default(n)": api.ErrInvalid, "default(n, n, n)": api.ErrInvalid, "keys()": api.ErrInvalid, "keys(mn, mn)": api.ErrInvalid,
		"len(y)": api.ErrName, "contains(n, y)": api.ErrName, "len(n + s)": api.ErrType, "contains(n + s, y)": api.ErrType, "default(z, y)": api.ErrName, "default(n, y)": api.ErrName,
		// Operators.
		"!n": api.ErrType, "!s": api.ErrType, "-b": api.ErrType, "-s": api.ErrType, "-ln": api.ErrType, "!z": api.ErrType,
		"n && b": api.ErrType, "b && n": api.ErrType, "s || b": api.ErrType, "b || z": api.ErrType, "n < s": api.ErrType, "b < b": api.ErrType, "ln <= ln": api.ErrType, "x > b": api.ErrType, "z >= x": api.ErrType, "mn < v": api.ErrType,
		"n + s": api.ErrType, "s + n": api.ErrType, "b + b": api.ErrType, "mn + mn": api.ErrType, "z + z": api.ErrType, "ln + n": api.ErrType, "s + ls": api.ErrType, "x + b": api.ErrType, "mn + v": api.ErrType,
		"s - s": api.ErrType, "ln - ln": api.ErrType, "s * n": api.ErrType, "n / s": api.ErrType, "b % n": api.ErrType,
		"n + s == y": api.ErrType, "y == n + s": api.ErrName, "n && y": api.ErrName, "y + (n + s)": api.ErrName, "(n + s) + y": api.ErrType,
		// Conditions.
		"n ? n : n": api.ErrType, "s ? n : s": api.ErrType, "n ? y : n": api.ErrName, "n ? n : y": api.ErrName, "n + s ? y : n": api.ErrType,
		// Levels.
		"[d16]": api.ErrDepth, "{a: d16}": api.ErrDepth, "[e16]": api.ErrDepth, "[d16, y]": api.ErrName, "[[d15]]": api.ErrDepth, "[d16] == y": api.ErrDepth, "[n, [d16]]": api.ErrDepth, "[d16, f16]": api.ErrDepth,
		// Types of functions, which may be more specific than those of the args only if these are loose.
		"len(n)": api.ErrType, "len(z)": api.ErrType, "len(b)": api.ErrType, "keys(ln)": api.ErrType, "keys(s)": api.ErrType, "contains(s, n)": api.ErrType, "contains(mn, n)": api.ErrType, "contains(n, n)": api.ErrType, "contains(z, x)": api.ErrType,
		"join(ln, s)": api.ErrType, "join(ls, n)": api.ErrType, "join(s, s)": api.ErrType, "join(mx, s)": api.ErrType, "join(lln, s)": api.ErrType, "split(n, s)": api.ErrType, "split(s, ls)": api.ErrType, "lower(n)": api.ErrType, "upper(z)": api.ErrType,
		"startswith(s, n)": api.ErrType, "endswith(ls, s)": api.ErrType, "int(n)": api.ErrType, "int(z)": api.ErrType, "string(ln)": api.ErrType, "string(mn)": api.ErrType, `join([1], ",")`: api.ErrType, `n + "x"`: api.ErrType,
	}
	for source, want := range sources {
		u, err := check.Expr(parsed(t, source), env(t))
		if err != want || u.Kind != api.TAny || len(u.Elem) > 0 {
			t.Errorf("the type of %s is %s, %v, want %v", source, typing.Show(u), err, want)
		}
	}
	if _, err := check.Expr(nested(list(), 15), nil); err != api.ErrDepth {
		t.Errorf("16 lists: %v", err)
	}
	if u, err := check.Expr(nested(list(), 14), nil); err != api.OK || typing.Show(u) != deep("never", 16) {
		t.Errorf("15 lists: %s, %v", typing.Show(u), err)
	}
}

// P11.3
func TestNames(t *testing.T) {
	sources := map[string][]string{
		"1": nil, "a": {"a"}, "a.b": {"a"}, "a(b)": {"b"}, "{a: b}": {"b"}, `"a"`: nil, "a[b]": {"a", "b"}, "!a": {"a"}, "b ? c : a": {"a", "b", "c"},
		"a + a + b + a": {"a", "b"}, "v10 + v9 + v1 + v01": {"v1", "v01", "v9", "v10"}, "b10 + b2 * f(b2, a.c, {z: \"q\"})": {"a", "b2", "b10"}, "a + B + _": {"B", "_", "a"},
	}
	for source, want := range sources {
		if got := check.Names(parsed(t, source)); !slices.Equal(got, want) {
			t.Errorf("Names(%s) = %v, want %v", source, got, want)
		}
	}
	a, b := name("a"), name("b")
	for _, x := range []struct {
		e    api.Expr
		want []string
	}{
		{api.Expr{}, nil},
		{api.Expr{Kind: 99, Name: "c", Args: []api.Expr{b, a}}, []string{"a", "b"}},
		{api.Expr{Kind: api.ELit, Args: []api.Expr{a}}, []string{"a"}},
		{api.Expr{Kind: api.EName, Name: "true", Args: []api.Expr{a, name(""), name("x y")}}, []string{"", "a", "true", "x y"}},
		{nested(a, 1<<16-1), []string{"a"}},
		{list(slices.Repeat([]api.Expr{a, b}, 50000)...), []string{"a", "b"}},
	} {
		if got := check.Names(x.e); !slices.Equal(got, x.want) {
			t.Errorf("Names(%.80v) = %v, want %v", x.e, got, x.want)
		}
	}
}
