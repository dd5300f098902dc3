package interp_test

import (
	"fmt"
	"slices"
	"strings"
	"testing"

	"pipeline/api"
	"pipeline/check"
	"pipeline/eval"
	"pipeline/ident"
	"pipeline/interp"
	"pipeline/typing"
	"pipeline/value"
)

func number(n int) api.Value { return api.Value{Kind: api.VInt, Int: n} }

func str(s string) api.Value { return api.Value{Kind: api.VString, Str: s} }

func typed(t *testing.T, s string) api.Type {
	t.Helper()
	u, err := typing.Parse(s)
	if err != api.OK {
		t.Fatalf("%s is not a type", s)
	}
	return u
}

// samples are the variables of the tests, each with a type that its value fits.
var samples = []struct{ name, source, kind string }{
	{"x", "2", "int"},
	{"y", "-5", "int"},
	{"b", "false", "bool"},
	{"z", "null", "null"},
	{"s", `"$}"`, "string"},
	{"e", `"${x}"`, "string"},
	{"l", `[7, "a", [1]]`, "list(any)"},
	{"n", "[7, 8]", "list(int)"},
	{"m", `{"k": "v", "x": 3}`, "map(any)"},
	{"a", "[]", "any"},
	{"c", "1", "any"},
}

func vars(t *testing.T) []api.Var {
	t.Helper()
	var env []api.Var
	for _, x := range samples {
		v, err := eval.Expr(parsed(t, x.source), nil)
		if err != api.OK || !typing.Fits(v, typed(t, x.kind)) {
			t.Fatalf("the sample %s: %v, %v", x.name, v, err)
		}
		env = append(env, api.Var{Name: x.name, Value: v})
	}
	return env
}

func decls(t *testing.T) []api.Decl {
	t.Helper()
	var env []api.Decl
	for _, x := range samples {
		env = append(env, api.Decl{Name: x.name, Type: typed(t, x.kind)})
	}
	return env
}

func expectExpanded(t *testing.T, s string, env []api.Var, want string, wantErr api.Errno) {
	t.Helper()
	if got, err := interp.Expand(s, env); got != want || err != wantErr {
		t.Errorf("Expand(%.60q) = %.60q, %v, want %.60q, %v", s, got, err, want, wantErr)
	}
}

// P13.3
func TestExpand(t *testing.T) {
	for _, x := range []struct{ s, want string }{
		{"", ""},
		{"a", "a"},
		{"$", "$"},
		{"$$", "$"},
		{"$x", "$x"},
		{"$${x}", "${x}"},
		{"a$$b${x + 1}c", "a$b3c"},
		{"${x}${x}", "22"},
		{"${x}$$${y}", "2$-5"},
		{"${y}", "-5"},
		{"${b}${!b}", "falsetrue"},
		{"${z}", ""},
		{"[${null}]", "[]"},
		{"${s}", "$}"},
		{"${s}${e}", "$}${x}"}, // the results are not expanded again
		{"${\"${x}\"}", "${x}"},
		{"${\"a\\n\\x00\\xff\\\"\"}", "a\n\x00\xff\""},
		{"${\"\"}", ""},
		{"${l[0]}${l[1]}${n[1]}${l[2][0]}", "7a81"},
		{"${m.k}${m[\"x\"]}", "v3"},
		{"${len(l)}${contains(m, \"k\")}", "3true"},
		{"${{\"}\": x}[\"}\"]}}", "2}"},
		{"${x > 1 ? \"yes\" : undefined}", "yes"},
		{"${b && undefined}", "false"},
		{"${9007199254740992}${-9007199254740992}", "9007199254740992-9007199254740992"},
		{repeated("a", api.MaxString), repeated("a", api.MaxString)},
		{repeated("$", api.MaxString), repeated("$", api.MaxString/2)},
		{repeated("${s}", 1024), repeated("$}", 1024)},
		{repeated("a", api.MaxString-4) + "${e}", repeated("a", api.MaxString-4) + "${x}"},
		{repeated("a", api.MaxString-5) + "${ z}", repeated("a", api.MaxString-5)},
	} {
		expectExpanded(t, x.s, vars(t), x.want, api.OK)
	}
	expectExpanded(t, "a${1 + 1}", nil, "a2", api.OK)
}

// P13.3
func TestExpandErrors(t *testing.T) {
	for _, x := range []struct {
		s    string
		want api.Errno
	}{
		{"${undefined}", api.ErrName},
		{"${X}", api.ErrName},
		{"a${l}", api.ErrType},
		{"${m}", api.ErrType},
		{"${a}", api.ErrType},
		{"${{}}", api.ErrType},
		{"${[x]}", api.ErrType},
		{"${x + s}", api.ErrType},
		{"${x / 0}", api.ErrDivide},
		{"${x * 9007199254740992}", api.ErrOverflow},
		{"${m.y}", api.ErrNotFound},
		{"${l[3]}", api.ErrNotFound},
		{"${int(s)}", api.ErrInvalid},
		{"${f()}", api.ErrName},
		{"${len()}", api.ErrInvalid},

		// Expression by expression: the value of one, its text, and only then the next one.
		{"${x / 0}${undefined}", api.ErrDivide},
		{"${undefined}${x / 0}", api.ErrName},
		{"${l}${undefined}", api.ErrType},
		{"${undefined}${l}", api.ErrName},
		{"${x}a${y}$${z}${m.y}${l}", api.ErrNotFound},

		// The pieces come first, and the length of the result last.
		{"${undefined}${", api.ErrTruncated},
		{"${undefined}${007}", api.ErrSyntax},
		{"${undefined}" + repeated("a", api.MaxString), api.ErrTooLong},
	} {
		expectExpanded(t, x.s, vars(t), "", x.want)
	}
	// Results of MaxString bytes, and of one more.
	long := str(repeated("s", api.MaxString))
	most := []api.Var{{Name: "s", Value: long}, {Name: "t", Value: str(repeated("t", api.MaxString/8))}}
	expectExpanded(t, "${s}", most, long.Str, api.OK)
	expectExpanded(t, "${s}${\"\"}", most, long.Str, api.OK)
	expectExpanded(t, "${s}a", most, "", api.ErrTooLong)
	expectExpanded(t, "$$${s}", most, "", api.ErrTooLong)
	expectExpanded(t, "${s}${s}", most, "", api.ErrTooLong)
	expectExpanded(t, "${s}${s}${undefined}", most, "", api.ErrName)
	expectExpanded(t, repeated("${t}", 8), most, repeated(most[1].Value.Str, 8), api.OK)
	expectExpanded(t, repeated("${t}", 8)+"a", most, "", api.ErrTooLong)
	expectExpanded(t, repeated("${s}", 1024), most, "", api.ErrTooLong)
	expectExpanded(t, "${s + \"a\"}", most, "", api.ErrTooLong)
}

// P13.3: environments that are not valid, after the pieces and before the expressions.
func TestExpandInEnvironments(t *testing.T) {
	var many []api.Var
	for i := range api.MaxList {
		many = append(many, api.Var{Name: fmt.Sprintf("v%d", i), Value: number(i)})
	}
	expectExpanded(t, "${v0}${v1023}", many, "01023", api.OK)
	for _, x := range []struct {
		env  []api.Var
		want api.Errno
	}{
		{append(many, api.Var{Name: "true"}), api.ErrTooLong},
		{[]api.Var{{Name: "x", Value: number(1)}, {Name: "null"}}, api.ErrInvalid},
		{[]api.Var{{Name: "x-y"}}, api.ErrInvalid},
		{[]api.Var{{Name: "x", Value: number(1)}, {Name: "y", Value: number(api.MaxNumber + 1)}}, api.ErrRange},
		{[]api.Var{{Name: "x", Value: number(1)}, {Name: "x", Value: number(1)}}, api.ErrExists},
		{[]api.Var{{Name: "y"}, {Name: "y"}, {Name: ""}}, api.ErrExists},
	} {
		if err := eval.Env(x.env); err != x.want {
			t.Fatalf("Env = %v, want %v", err, x.want)
		}
		for _, s := range []string{"", "a", "${x}", "${undefined}", "${1 / 0}", "${[]}", repeated("${x}", 1024)} {
			expectExpanded(t, s, x.env, "", x.want)
		}
		expectExpanded(t, "a${", x.env, "", api.ErrTruncated)
		expectExpanded(t, repeated("a", api.MaxString+1), x.env, "", api.ErrTooLong)
	}
}

// P13.4
func TestNames(t *testing.T) {
	for _, x := range []struct {
		s    string
		want []string
	}{
		{"", nil},
		{"x $x $${y}", nil},
		{"${1}${null}${\"x\"}", nil},
		{"${x}", []string{"x"}},
		{"${x}${x}${x + x}", []string{"x"}},
		{"${b10}$$${b2 + a}b", []string{"a", "b2", "b10"}},
		{"${z.y[x]}${f(g(w))}", []string{"w", "x", "z"}},
		{"${{k: v}}${[u ? t : -s]}", []string{"s", "t", "u", "v"}},
		{"${b && undefined}", []string{"b", "undefined"}},
		{"${a1}${a01}${A}${_}", []string{"A", "_", "a1", "a01"}},
	} {
		got, err := interp.Names(x.s)
		if err != api.OK || !slices.Equal(got, x.want) || !ident.Ascending(got) {
			t.Errorf("Names(%q) = %q, %v, want %q", x.s, got, err, x.want)
		}
	}
	var s strings.Builder
	var want []string
	for i := range 400 {
		fmt.Fprintf(&s, "${n%d}", 399-i)
		want = append(want, fmt.Sprintf("n%d", i))
	}
	if got, err := interp.Names(s.String()); err != api.OK || !slices.Equal(got, want) {
		t.Errorf("Names of many = %q, %v", got, err)
	}
}

// P13.4: the errors of Parts, without results.
func TestNamesErrors(t *testing.T) {
	for _, x := range notDivided {
		if got, err := interp.Names(x.s); err != x.want || err != api.OK && len(got) != 0 {
			t.Errorf("Names(%.40q) = %q, %v, want %v", x.s, got, err, x.want)
		}
		if got, err := interp.Names("${a}" + x.s); err != api.OK && len(got) != 0 || err == api.OK && x.want != api.OK {
			t.Errorf("Names(${a}%.40q) = %q, %v", x.s, got, err)
		}
		if err := interp.Check(x.s, nil); err != x.want {
			t.Errorf("Check(%.40q) = %v, want %v", x.s, err, x.want)
		}
		if x.want != api.OK {
			expectExpanded(t, x.s, nil, "", x.want)
		}
	}
}

func expectChecked(t *testing.T, s string, env []api.Decl, want api.Errno) {
	t.Helper()
	if err := interp.Check(s, env); err != want {
		t.Errorf("Check(%.60q) = %v, want %v", s, err, want)
	}
}

// P13.5
func TestCheck(t *testing.T) {
	for _, x := range []struct {
		s    string
		want api.Errno
	}{
		{"", api.OK},
		{"a$$ $x", api.OK},
		{"${x}${b}${z}${s}", api.OK},
		{"${a}", api.OK}, // any, which may be a list or not
		{"${l[0]}${m.k}${n[0]}", api.OK},
		{"${[][0]}", api.OK}, // never
		{"${x > 1 ? l : 1}", api.OK},
		{"${x / 0}", api.OK},
		{repeated("${e}", 1024), api.OK},
		{"${l}", api.ErrType},
		{"${n}", api.ErrType},
		{"${m}", api.ErrType},
		{"${[]}", api.ErrType},
		{"${{}}", api.ErrType},
		{"${x > 1 ? l : n}", api.ErrType},
		{"${x + s}", api.ErrType},
		{"${undefined}", api.ErrName},
		{"${b && undefined}", api.ErrName},
		{"${f(1)}", api.ErrName},
		{"${len()}", api.ErrInvalid},

		// Expression by expression.
		{"${undefined}${l}", api.ErrName},
		{"${l}${undefined}", api.ErrType},
		{"${x}a${y}$${z}${len()}${l}", api.ErrInvalid},
		{"${l}${undefined}${", api.ErrTruncated},
		{"${l}${9007199254740993}", api.ErrRange},
	} {
		expectChecked(t, x.s, decls(t), x.want)
	}
	var many []api.Decl
	for i := range api.MaxList {
		many = append(many, api.Decl{Name: fmt.Sprintf("v%d", i)})
	}
	expectChecked(t, "${v0}${v1023}", many, api.OK)
	for _, x := range []struct {
		env  []api.Decl
		want api.Errno
	}{
		{append(many, api.Decl{Name: "true"}), api.ErrTooLong},
		{[]api.Decl{{Name: "x"}, {Name: "null"}}, api.ErrInvalid},
		{[]api.Decl{{Name: "x"}, {Name: "y", Type: api.Type{Kind: api.TList}}}, api.ErrInvalid},
		{[]api.Decl{{Name: "x"}, {Name: "x"}}, api.ErrExists},
		{[]api.Decl{{Name: "y"}, {Name: "y"}, {Name: ""}}, api.ErrExists},
	} {
		if err := check.Env(x.env); err != x.want {
			t.Fatalf("Env = %v, want %v", err, x.want)
		}
		for _, s := range []string{"", "a", "${x}", "${undefined}", "${len()}", "${[]}"} {
			expectChecked(t, s, x.env, x.want)
		}
		expectChecked(t, "a${", x.env, api.ErrTruncated)
	}
}

// sources are expressions with and without types and values in the environments of the tests.
var sources = []string{
	"x", "y", "b", "z", "s", "e", "l", "m", "a", "c", "undefined", "x + y", "x + s", "s + e", "x / 0", "x % y", "l[0]", "l[1]", "l[2]", "l[9]", "n[x]", "m.k", "m.y", "m[s]", "a[0]", "c + 1", "!c",
	"default(z, l)", "default(c, x)", "string(x)", "int(s)", "int(string(y))", "keys(m)", "join(keys(m), s)", "b ? l : x", "b ? x : l", "x > 1 && b", "[x]", "{}", "f(x)", "len(s, s)", "9007199254740992 + x",
}

// fragments are strings that are divided into at most one piece, and end no expression that another one begins.
func fragments() []string {
	all := []string{"", "a", "$$", "$x", "$$$$", "}", "\"", "é"}
	for _, source := range sources {
		all = append(all, "${"+source+"}")
	}
	return all
}

// expandOne returns what stands for a fragment.
func expandOne(t *testing.T, s string, env []api.Var) (string, api.Errno) {
	t.Helper()
	source, is := strings.CutPrefix(s, "${")
	if !is {
		return strings.ReplaceAll(s, "$$", "$"), api.OK
	}
	v, err := eval.Expr(parsed(t, strings.TrimSuffix(source, "}")), env)
	if err != api.OK {
		return "", err
	}
	return value.Text(v)
}

// P13.3, P13.7: strings of two and three fragments are expanded to the expansions of the fragments.
func TestConcatenation(t *testing.T) {
	env, all := vars(t), fragments()
	texts, errs := map[string]string{}, map[string]api.Errno{}
	for _, s := range all {
		texts[s], errs[s] = expandOne(t, s, env)
		expectExpanded(t, s, env, texts[s], errs[s])
	}
	for _, r := range all[:12] {
		for _, s := range all {
			for _, u := range all {
				want, err := "", api.OK
				for _, part := range []string{r, s, u} {
					if err == api.OK {
						want, err = want+texts[part], errs[part]
					}
				}
				if err != api.OK {
					want = ""
				}
				expectExpanded(t, r+s+u, env, want, err)
			}
		}
	}
}

// P13.7: what passes Check has no error but those that P11.4 lists.
func TestSound(t *testing.T) {
	values, types, all := vars(t), decls(t), fragments()
	passed := 0
	for _, s := range all {
		for _, u := range all {
			err := interp.Check(s+u, types)
			if want := slices.ContainsFunc([]string{s, u}, func(x string) bool { return interp.Check(x, types) != api.OK }); want != (err != api.OK) {
				t.Errorf("Check(%s) = %v", s+u, err)
			}
			if err != api.OK {
				continue
			}
			passed++
			_, err = interp.Expand(s+u, values)
			switch err {
			case api.OK, api.ErrNotFound, api.ErrOverflow, api.ErrDivide, api.ErrInvalid, api.ErrTooLong, api.ErrDepth, api.ErrType:
			default:
				t.Errorf("Expand(%s) = %v", s+u, err)
			}
			// Only any may turn out to be something else than was needed: no such expression is strict.
			if strict := !strings.ContainsAny(s+u, "lmac"); strict && err == api.ErrType {
				t.Errorf("Expand(%s) = %v", s+u, err)
			}
		}
	}
	if passed < 1000 {
		t.Errorf("only %d strings passed", passed)
	}
}

// P13.7: a string without dollar signs is expanded to itself.
func TestWithoutDollars(t *testing.T) {
	for s := range words("a{}\"\\\x00\xff", 4) {
		expectExpanded(t, s, vars(t), s, api.OK)
	}
}

// R5
func TestArgumentsAreKept(t *testing.T) {
	env, types := vars(t), decls(t)
	for _, s := range []string{"${l[0]}${m.k}", "${a}", "${n + n}"} {
		interp.Expand(s, env)
		interp.Check(s, types)
	}
	for i, v := range vars(t) {
		if env[i].Name != v.Name || !value.Equal(env[i].Value, v.Value) || typing.Show(types[i].Type) != samples[i].kind {
			t.Errorf("the variable %s has changed", v.Name)
		}
	}
}

// R1: many expressions in a large environment.
func TestLargeEnvironments(t *testing.T) {
	var env []api.Var
	var types []api.Decl
	list := api.Value{Kind: api.VList, List: slices.Repeat([]api.Value{number(1)}, api.MaxList)}
	for i := range api.MaxList {
		env = append(env, api.Var{Name: fmt.Sprintf("v%d", i), Value: list})
		types = append(types, api.Decl{Name: fmt.Sprintf("v%d", i), Type: typing.Of(list)})
	}
	s := repeated("${v0[0]}", 512)
	expectExpanded(t, s, env, repeated("1", 512), api.OK)
	expectChecked(t, s, types, api.OK)
}
