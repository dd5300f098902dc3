package check_test

import (
	"slices"
	"strings"
	"testing"

	"pipeline/api"
	"pipeline/check"
	"pipeline/typing"
)

// texts are the texts of the types of at most so many levels.
func texts(levels int) []string {
	list := []string{"any", "null", "bool", "int", "string", "never"}
	if levels > 1 {
		for _, element := range texts(levels - 1) {
			list = append(list, "list("+element+")", "map("+element+")")
		}
	}
	return list
}

func isLoose(t string) bool { return t == "any" || t == "never" }

// split returns the name of the kind of a type, and the text of its element type.
func split(t string) (string, string) {
	kind, rest, _ := strings.Cut(t, "(")
	return kind, strings.TrimSuffix(rest, ")")
}

// fits is the definition of compatible types, by their texts.
func fits(t, u string) bool {
	if isLoose(t) || u == "any" {
		return true
	}
	kind, element := split(t)
	other, needed := split(u)
	return kind == other && (element == "" || fits(element, needed))
}

// share is the definition of a common kind, by the texts of types.
func share(kind string, types ...string) bool {
	has := false
	for _, t := range types {
		own, _ := split(t)
		if own != kind && !isLoose(t) {
			return false
		}
		has = has || own == kind
	}
	return has
}

// joined is the join of two types, by their texts.
func joined(t *testing.T, a, b string) string {
	return typing.Show(typing.Join(typed(t, a), typed(t, b)))
}

// want returns the text of the type of an operation by the definition; it is empty if there is none.
func want(t *testing.T, operator, a, b string) string {
	element := func(u string) string {
		if isLoose(u) {
			return u
		}
		_, inner := split(u)
		return inner
	}
	switch {
	case operator == "==" || operator == "!=":
		return "bool"
	case operator == "&&" || operator == "||":
		if fits(a, "bool") && fits(b, "bool") {
			return "bool"
		}
	case operator[0] == '<' || operator[0] == '>':
		if isLoose(a) && isLoose(b) || share("int", a, b) || share("string", a, b) {
			return "bool"
		}
	case operator != "+":
		if fits(a, "int") && fits(b, "int") {
			return "int"
		}
	case a == "any" && isLoose(b) || b == "any" && isLoose(a):
		return "any"
	case isLoose(a) && isLoose(b):
		return "never"
	case share("list", a, b):
		return "list(" + joined(t, element(a), element(b)) + ")"
	case share("int", a, b):
		return "int"
	case share("string", a, b):
		return "string"
	}
	return ""
}

// expectType checks the type of an expression; there is none if want is empty.
func expectType(t *testing.T, e api.Expr, env []api.Decl, want string) {
	t.Helper()
	u, err := check.Expr(e, env)
	if want == "" && err != api.ErrType || want != "" && (err != api.OK || typing.Show(u) != want) {
		t.Errorf("the type of %s %s in %+v is %s, %v, want %s", e.Name, e.Keys, env, typing.Show(u), err, want)
	}
}

// P11.2: all operators, conditions, lists and indexes with all types of at most 3 levels.
func TestOperations(t *testing.T) {
	a, b := name("a"), name("b")
	types := texts(3)
	for _, first := range types {
		env := declared(t, "a", first)
		for operator, kind := range map[string]string{"!": "bool", "-": "int"} {
			result := ""
			if fits(first, kind) {
				result = kind
			}
			expectType(t, api.Expr{Kind: api.EUnary, Name: operator, Args: []api.Expr{a}}, env, result)
		}
		kind, element := split(first)
		if isLoose(first) {
			element = first
		} else if kind != "map" {
			element = ""
		}
		expectType(t, api.Expr{Kind: api.EMember, Name: "m", Args: []api.Expr{a}}, env, element)
		for _, second := range types {
			env := declared(t, "a", first, "b", second)
			for _, operator := range strings.Fields("|| && == != < <= > >= + - * / %") {
				expectType(t, api.Expr{Kind: api.EBinary, Name: operator, Args: []api.Expr{a, b}}, env, want(t, operator, first, second))
			}
			expectType(t, list(a, b), env, "list("+joined(t, first, second)+")")
			expectType(t, api.Expr{Kind: api.EMap, Keys: []string{"k", "j"}, Args: []api.Expr{b, a}}, env, "map("+joined(t, first, second)+")")
			choice := ""
			if fits(first, "bool") {
				choice = second
			}
			expectType(t, api.Expr{Kind: api.ECond, Args: []api.Expr{a, b, b}}, env, choice)
			expectType(t, api.Expr{Kind: api.EIndex, Args: []api.Expr{a, b}}, env, indexed(first, second))
		}
	}
}

// indexed returns the text of the type of an index by the definition; it is empty if there is none.
func indexed(first, second string) string {
	kind, element := split(first)
	switch {
	case kind == "list" && fits(second, "int") || kind == "map" && fits(second, "string"):
		return element
	case isLoose(first) && (fits(second, "int") || fits(second, "string")):
		return first
	}
	return ""
}

// signatures are the functions, as the chapter lists them: their types, and the alternatives for those of their args.
var signatures = []struct {
	name, result string
	alternatives []string
}{
	{"len", "int", []string{"string", "list(any)", "map(any)"}},
	{"contains", "bool", []string{"list(any) any", "string string", "map(any) string"}},
	{"join", "string", []string{"list(string) string"}},
	{"string", "string", []string{"null", "bool", "int", "string"}},
	{"lower", "string", []string{"string"}},
	{"upper", "string", []string{"string"}},
	{"split", "list(string)", []string{"string string"}},
	{"startswith", "bool", []string{"string string"}},
	{"endswith", "bool", []string{"string string"}},
	{"int", "int", []string{"string"}},
	{"default", "", []string{"any any"}},
	{"keys", "list(string)", []string{"map(any)"}},
}

// P11.2: all functions with all types of at most 3 levels, and with every other number of args.
func TestCalls(t *testing.T) {
	for _, f := range signatures {
		for _, first := range texts(3) {
			if !strings.Contains(f.alternatives[0], " ") {
				expectCall(t, f.name, f.result, f.alternatives, first)
				continue
			}
			for _, second := range texts(3) {
				expectCall(t, f.name, f.result, f.alternatives, first, second)
			}
		}
		for count := range 5 {
			args := slices.Repeat([]api.Expr{name("a")}, count)
			_, err := check.Expr(api.Expr{Kind: api.ECall, Name: f.name, Args: args}, declared(t, "a", "any"))
			right := count == len(strings.Fields(f.alternatives[0]))
			if right && err != api.OK || !right && err != api.ErrInvalid {
				t.Errorf("%s with %d args: %v", f.name, count, err)
			}
		}
	}
}

// expectCall checks the type of a call with args of these types.
func expectCall(t *testing.T, function, result string, alternatives []string, types ...string) {
	t.Helper()
	if function == "default" && types[0] == "null" {
		result = types[1]
	} else if function == "default" {
		result = types[0]
	}
	if !slices.ContainsFunc(alternatives, func(alternative string) bool {
		return slices.EqualFunc(types, strings.Fields(alternative), fits)
	}) {
		result = ""
	}
	words, args := []string{"a", types[0]}, []api.Expr{name("a")}
	if len(types) > 1 {
		words, args = append(words, "b", types[1]), append(args, name("b"))
	}
	expectType(t, api.Expr{Kind: api.ECall, Name: function, Args: args}, declared(t, words...), result)
}
