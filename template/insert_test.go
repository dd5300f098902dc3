package template_test

import (
	"fmt"
	"math/rand/v2"
	"slices"
	"strings"
	"testing"

	"pipeline/api"
	"pipeline/config"
	"pipeline/eval"
	"pipeline/interp"
	"pipeline/lexer"
	"pipeline/parser"
	"pipeline/template"
	"pipeline/value"
)

// inserted returns the body of a template with the values of its parameters, which is what a use of it stands for.
func inserted(t *testing.T, body api.Block, values []api.Var) (api.Block, api.Errno) {
	t.Helper()
	used := api.Template{Name: "t", Body: body}
	var args []api.Attr
	for _, v := range values {
		used.Params = append(used.Params, api.Param{Name: v.Name, Type: typed(t, "any")})
		args = append(args, api.Attr{Name: v.Name, Expr: lit(v.Value)})
	}
	f := api.File{Blocks: []api.Block{{Kind: "job", Blocks: []api.Block{{Kind: "use", Name: "t", Attrs: args}}}}}
	g, err := template.Expand(f, []api.Template{used}, nil)
	if err != api.OK {
		if len(g.Blocks) != 0 {
			t.Errorf("a result with %v", err)
		}
		return api.Block{}, err
	}
	return g.Blocks[0], api.OK
}

// insertedExpr returns an expression with values.
func insertedExpr(t *testing.T, e api.Expr, values []api.Var) (api.Expr, api.Errno) {
	t.Helper()
	b, err := inserted(t, api.Block{Attrs: []api.Attr{{Name: "x", Expr: e}}}, values)
	if err != api.OK {
		return api.Expr{}, err
	}
	return b.Attrs[0].Expr, api.OK
}

// samples are the parameters of the tests, with the sources of their values.
var samples = []struct{ name, source string }{
	{"n", "2"}, {"k", "-4"}, {"b", "true"}, {"z", "null"}, {"s", `"d\"e"`}, {"d", `"$n"`}, {"q", `"${n}"`}, {"l", `[1, "a", [n]]`}, {"m", `{a: 1, "b c": "}"}`}, {"e", `""`},
}

func values(t *testing.T) []api.Var {
	t.Helper()
	var vars []api.Var
	for _, x := range samples {
		v, err := eval.Expr(parsed(t, x.source), []api.Var{{Name: "n", Value: str("n")}})
		if err != api.OK {
			t.Fatal(x.source)
		}
		vars = append(vars, api.Var{Name: x.name, Value: v})
	}
	return vars
}

// P15.4: names in expressions.
func TestInsert(t *testing.T) {
	for _, x := range []struct{ source, want string }{
		{"n", "2"}, {"k", "-4"}, {"b", "true"}, {"z", "null"}, {"s", `"d\"e"`}, {"d", `"$n"`}, {"q", `"${n}"`}, {"l", `[1, "a", ["n"]]`}, {"m", `{"a": 1, "b c": "}"}`},
		{"n + 1", "2 + 1"}, {"1 + n", "1 + 2"}, {"-n", "-2"}, {"-k", "--4"}, {"k * k", "-4 * -4"}, {"1 - k", "1 - -4"}, {"!b", "!true"},
		{"k.x", "(-4).x"}, {"k[k]", "(-4)[-4]"}, {"m.a", `{"a": 1, "b c": "}"}.a`}, {"l[n]", `[1, "a", ["n"]][2]`},
		{"b ? n : x", "true ? 2 : x"}, {"[n, x, [n]]", "[2, x, [2]]"}, {"{x: n, y: {z: k}}", `{"x": 2, "y": {"z": -4}}`},
		{"(n + x) * n", "(2 + x) * 2"}, {"len(l) + f(n, x)", `len([1, "a", ["n"]]) + f(2, x)`},

		// What is no part of kind EName, or has another name.
		{"x", "x"}, {"N", "N"}, {"nn", "nn"}, {"success && x", "success && x"}, {"x.n", "x.n"}, {"x.n[n].n", "x.n[2].n"}, {"n(n)", "n(2)"}, {"{n: x, \"k\": n}", `{"n": x, "k": 2}`}, {`"n"`, `"n"`}, {"1", "1"}, {"true", "true"}, {"[]", "[]"}, {"{}", "{}"},
	} {
		e, err := insertedExpr(t, parsed(t, x.source), values(t))
		if err != api.OK || parser.Show(e) != x.want {
			t.Errorf("%s with the values is %s, %v, want %s", x.source, parser.Show(e), err, x.want)
		}
	}
	// The literals of values are literals, whatever the values are.
	for _, v := range []api.Value{number(-api.MaxNumber), str(repeated("\xff", api.MaxString)), list(), deep(16), {Kind: api.VMap}, {Kind: api.VBool}, list(slices.Repeat([]api.Value{str(repeated("s", api.MaxString))}, 200)...)} {
		e, err := insertedExpr(t, api.Expr{Kind: api.EList, Args: []api.Expr{name("v"), name("v")}}, []api.Var{{Name: "v", Value: v}})
		if err != api.OK || len(e.Args) != 2 || !parser.Equal(e.Args[0], lit(v)) || !parser.Equal(e.Args[1], lit(v)) {
			t.Errorf("%.60s is inserted as %.60s, %v", value.Show(v), parser.Show(e), err)
		}
	}
	// A literal list is no literal string, nor are its elements.
	e, err := insertedExpr(t, lit(list(str("${n}"))), values(t))
	if err != api.OK || !parser.Equal(e, lit(list(str("${n}")))) {
		t.Errorf("a literal list is %s, %v", parser.Show(e), err)
	}
}

// P15.4: literal strings.
func TestInsertIntoStrings(t *testing.T) {
	for _, x := range []struct{ text, want string }{
		{"", ""}, {"n", "n"}, {"$", "$"}, {"$n", "$n"}, {"$$", "$$"},
		{"${n}", "${2}"}, {"a${n}b", "a${2}b"}, {"${n}${k}${z}", "${2}${-4}${null}"}, {"${ n+1 }", "${2 + 1}"}, {"${n.x}", "${2.x}"}, {"${k.x}", "${(-4).x}"}, {"${l[n]}", `${[1, "a", ["n"]][2]}`}, {"${m.a}", `${{"a": 1, "b c": "}"}.a}`},
		{"${s}", `${"d\"e"}`}, {"${d}", `${"$n"}`}, {"${q}", `${"${n}"}`}, {"${e}", `${""}`},

		// With an expression that uses a name, all of the string has the form of Show.
		{"$n${n}", "$$n${2}"}, {"$$${n}", "$$${2}"}, {"$${n}${n}", "$${n}${2}"}, {"${n}$", "${2}$$"}, {"${ x+1 }${n}${ y }", "${x + 1}${2}${y}"}, {"\n\x00\xff${n}", "\n\x00\xff${2}"}, {"${x+1}${\"\\x61\"}${n}", "${x + 1}${\"a\"}${2}"},

		// Without one it is not changed.
		{"$${n}", "$${n}"}, {"${x}", "${x}"}, {"${ x+1 }$a", "${ x+1 }$a"}, {"$n${ x.n }", "$n${ x.n }"}, {"${n(1)}$", "${n(1)}$"}, {"${ {n: 1}.n }$", "${ {n: 1}.n }$"}, {"${\"n\"}$", "${\"n\"}$"}, {"${ 1 }$$$", "${ 1 }$$$"},

		// It is no interpolated string without errors.
		{"${n", "${n"}, {"${n}${", "${n}${"}, {"${", "${"}, {"${}${n}", "${}${n}"}, {"${n}${n n}", "${n}${n n}"}, {"${n}${007}", "${n}${007}"}, {"${n}${9007199254740993}", "${n}${9007199254740993}"}, {"${n}${{a: 1, a: 2}}", "${n}${{a: 1, a: 2}}"}, {"${n}${" + repeated("-", 16) + "1}", "${n}${" + repeated("-", 16) + "1}"},

		// Strings in strings.
		{`${"${n}"}`, `${"${2}"}`}, {`$${"${n}"}`, `$${"${2}"}`}, {`$x${"$x${n}"}`, `$$x${"$$x${2}"}`}, {`${x + "${n}" + "$n"}`, `${x + "${2}" + "$n"}`}, {`${"$${n}"}$`, `${"$${n}"}$`}, {`${"${x}"}$`, `${"${x}"}$`}, {`${"${n"}${n}`, `${"${n"}${2}`}, {`${"${n"}$`, `${"${n"}$`},
		{`${"${\"${n}\"}"}`, `${"${\"${2}\"}"}`}, {`${"${\"$${n}\"}"}$`, `${"${\"$${n}\"}"}$`}, {`${"$${\"${n}\"}"}$`, `${"$${\"${2}\"}"}$$`}, {`${{"${n}": "${n}"}}`, `${{"${n}": "${2}"}}`}, {`${x["${n}"]}`, `${x["${2}"]}`}, {`${f("${s}")}`, `${f("${\"d\\\"e\"}")}`},
	} {
		for _, source := range []string{"%", "[x, %]", "x[%]", "{\"${n}\": %}", "f(% + %)"} {
			source := func(text string) string { return strings.ReplaceAll(source, "%", lexer.Quote(text)) }
			e, err := insertedExpr(t, parsed(t, source(x.text)), values(t))
			if err != api.OK || !parser.Equal(e, parsed(t, source(x.want))) {
				t.Errorf("%s with the values is %s, %v, want %s", source(x.text), parser.Show(e), err, source(x.want))
			}
		}
		if e, err := insertedExpr(t, lit(str(x.text)), nil); err != api.OK || !parser.Equal(e, lit(str(x.text))) {
			t.Errorf("%s without values is %s, %v", x.text, parser.Show(e), err)
		}
	}
}

// P15.4: strings of MaxString bytes after the insertion, and of one more.
func TestInsertTooLong(t *testing.T) {
	env := []api.Var{{Name: "n", Value: number(1)}, {Name: "r", Value: number(12)}, {Name: "h", Value: str(repeated("h", api.MaxString-5))}, {Name: "w", Value: str(repeated("w", api.MaxString-4))}, {Name: "o", Value: list(slices.Repeat([]api.Value{number(1)}, 1000)...)}}
	a := repeated("a", api.MaxString)
	for _, x := range []struct {
		text, want string
		err        api.Errno
	}{
		{"${n}" + a[4:], "${1}" + a[4:], api.OK},
		{"${r}" + a[5:], "${12}" + a[5:], api.OK},
		{"${r}" + a[4:], "", api.ErrTooLong},
		{a[4:] + "${r}", "", api.ErrTooLong},
		{"${n}$" + a[6:], "${1}$$" + a[6:], api.OK},
		{"${n}$" + a[5:], "", api.ErrTooLong},
		{"${n}" + repeated("$", 4091), "${1}" + repeated("$", 4092), api.OK},
		{"${n}" + repeated("$", 4092), "${1}" + repeated("$", 4092), api.OK},
		{"${n}" + repeated("$b", 2046), "", api.ErrTooLong},
		{"${n}" + repeated("$b", 1364), "${1}" + repeated("$$b", 1364), api.OK},
		{"${n}" + repeated("$b", 1365), "", api.ErrTooLong},
		{repeated("$b", 2048), repeated("$b", 2048), api.OK},
		{"${x}" + repeated("$b", 2046), "${x}" + repeated("$b", 2046), api.OK},
		{"${h}", `${"` + repeated("h", api.MaxString-5) + `"}`, api.OK},
		{"${h}a", "", api.ErrTooLong},
		{"${w}", "", api.ErrTooLong},
		{"${o[0]}", `${[` + repeated("1, ", 999) + `1][0]}`, api.OK},
		{"${o[0]}${o[1]}", "", api.ErrTooLong},
		{`${"${r}` + a[10:] + `"}`, `${"${12}` + a[10:] + `"}`, api.OK},
		{`${"${r}` + a[9:] + `"}`, "", api.ErrTooLong},
		{`${"${w}"}`, "", api.ErrTooLong},
		{`${"${w}` + a[20:] + "${w" + `"}`, `${"${w}` + a[20:] + "${w" + `"}`, api.OK},
	} {
		if len(x.text) > api.MaxString || len(x.want) > api.MaxString {
			t.Fatalf("%.50s is too long: %d", x.text, len(x.text))
		}
		e, err := insertedExpr(t, lit(str(x.text)), env)
		if err != x.err || err == api.OK && !parser.Equal(e, lit(str(x.want))) {
			t.Errorf("%.50s with the values is %.50s, %v, want %.50s, %v", x.text, parser.Show(e), err, x.want, x.err)
		}
	}
}

// P15.4: the names of nested blocks.
func TestInsertIntoNames(t *testing.T) {
	for _, x := range []struct {
		text, want string
		err        api.Errno
	}{
		{"", "", api.OK}, {"a", "a", api.OK}, {"$", "$", api.OK}, {"$n", "$n", api.OK}, {"$$", "$", api.OK}, {"$${n}", "${n}", api.OK}, {"n", "n", api.OK},
		{"${n}", "2", api.OK}, {"a-${n}", "a-2", api.OK}, {"${n + 1}", "3", api.OK}, {"${k}${b}${z}", "-4true", api.OK}, {"${s}", "d\"e", api.OK}, {"${q}", "${n}", api.OK}, {"${\"${n}\"}", "${n}", api.OK}, {"${b ? \"x\" : y}", "x", api.OK}, {"${l[0]}${m.a}", "11", api.OK}, {"${e}", "", api.OK},
		{"${x}", "", api.ErrName}, {"${i}", "", api.ErrName}, {"${l}", "", api.ErrType}, {"${m}", "", api.ErrType}, {"${n / 0}", "", api.ErrDivide}, {"${n + s}", "", api.ErrType}, {"${m.b}", "", api.ErrNotFound}, {"${f(n)}", "", api.ErrName}, {"${int(s)}", "", api.ErrInvalid},
		{"${n", "", api.ErrTruncated}, {"${}", "", api.ErrTruncated}, {"${n n}", "", api.ErrSyntax}, {"${9007199254740993}", "", api.ErrRange}, {"${x}${", "", api.ErrTruncated}, {"${n / 0}${x}", "", api.ErrDivide}, {"${x}${n / 0}", "", api.ErrName},
	} {
		for _, body := range []api.Block{{Blocks: []api.Block{{Kind: "a", Name: x.text}}}, {Blocks: []api.Block{{Kind: "a", Blocks: []api.Block{{Kind: "a", Name: x.text}}}}}} {
			b, err := inserted(t, body, values(t))
			if err == api.OK {
				b = b.Blocks[0]
			}
			if err == api.OK && len(b.Blocks) > 0 {
				b = b.Blocks[0]
			}
			if err != x.err || b.Name != x.want {
				t.Errorf("the name %q with the values is %q, %v, want %q, %v", x.text, b.Name, err, x.want, x.err)
			}
		}
	}
	// Also without parameters, and not with the variables of the environment.
	plain := declare("t", "a \"$$x\" {\n}")
	expectExpanded(t, plain+job(use("t")), environment(t), "job {\n  a \"$x\" {\n  }\n}\n", api.OK)
	expectExpanded(t, declare("t", "a \"${i}\" {\n}")+job(use("t")), environment(t), "", api.ErrName)
}

// P15.4: which error of an insertion comes first.
func TestInsertErrorsInOrder(t *testing.T) {
	long := "x = \"${v}\"" // ErrTooLong
	for _, x := range []struct {
		body string
		want api.Errno
	}{
		{long + "\na \"${x}\" {\n}", api.ErrTooLong},
		{"a \"${x}\" {\n}\n" + long, api.ErrTooLong},
		{"a \"${x}\" {\n" + long + "\n}", api.ErrName},
		{"a \"${1 / 0}\" {\n}\nb \"${x}\" {\n}", api.ErrDivide},
		{"b \"${x}\" {\n}\na \"${1 / 0}\" {\n}", api.ErrName},
		{"a {\n" + long + "\n}\nb \"${x}\" {\n}", api.ErrTooLong},
		{"a {\nb \"${1 / 0}\" {\n}\n" + long + "\n}\nb \"${x}\" {\n}", api.ErrTooLong},
		{"a {\nb \"${1 / 0}\" {\n" + long + "\n}\n}\nb \"${x}\" {\n}", api.ErrDivide},
		{"a {\nb {\n" + long + "\n}\n}\nb \"${x}\" {\n}", api.ErrTooLong},
		{"use \"${x}\" {\ny {\n}\n}", api.ErrName},
		{"use \"none\" {\n" + long + "\n}", api.ErrTooLong},
		{"use \"none\" {\n}\na {\n" + long + "\n}", api.ErrTooLong},
		{"use \"none\" {\n}\na {\nx = 1\n}", api.ErrNotFound},
	} {
		source := declare("t", param("v", "any"), x.body) + job(use("t", "v = v"))
		expectExpanded(t, source, []api.Var{{Name: "v", Value: str(repeated("v", api.MaxString))}}, "", x.want)
	}
}

// The definitions of the chapter, for expressions without errors.

func usesName(e api.Expr, names []string) bool {
	if e.Kind == api.EName && slices.Contains(names, e.Name) {
		return true
	}
	if e.Kind == api.ELit && e.Value.Kind == api.VString {
		ps, _, err := interp.Parts(e.Value.Str)
		return err == api.OK && slices.ContainsFunc(ps, func(p api.Piece) bool { return p.Is && usesName(p.Expr, names) })
	}
	return slices.ContainsFunc(e.Args, func(arg api.Expr) bool { return usesName(arg, names) })
}

// define returns an expression with values; it adds to tooLong for each string that is too long.
func define(e api.Expr, vars []api.Var, tooLong *int) api.Expr {
	var names []string
	for _, v := range vars {
		names = append(names, v.Name)
	}
	if i := slices.Index(names, e.Name); e.Kind == api.EName && i >= 0 {
		return lit(vars[i].Value)
	}
	if e.Kind == api.ELit && usesName(e, names) {
		ps, _, _ := interp.Parts(e.Value.Str)
		for i, p := range ps {
			if p.Is {
				ps[i].Expr = define(p.Expr, vars, tooLong)
			}
		}
		shown := interp.Show(ps)
		if len(shown) > api.MaxString {
			*tooLong++
		}
		return lit(str(shown))
	}
	args := e.Args
	e.Args = nil
	for _, arg := range args {
		e.Args = append(e.Args, define(arg, vars, tooLong))
	}
	return e
}

// grown returns expressions that grow by chance, with strings in strings.
func grown(t *testing.T, chance *rand.Rand, rounds int) []api.Expr {
	t.Helper()
	var pool []api.Expr
	for _, source := range strings.Fields(`n k b z s d q l m e w x 1 "" "$" "n" true [] {} "${n}" "${x}"`) {
		pool = append(pool, parsed(t, source))
	}
	one := func() api.Expr { return pool[chance.IntN(len(pool))] }
	for range rounds {
		a, b, c := one(), one(), one()
		var e api.Expr
		switch chance.IntN(11) {
		case 0:
			e = api.Expr{Kind: api.EMember, Name: "n", Args: []api.Expr{a}}
		case 1:
			e = api.Expr{Kind: api.EIndex, Args: []api.Expr{a, b}}
		case 2:
			e = api.Expr{Kind: api.ECall, Name: "string", Args: []api.Expr{a}}
		case 3:
			e = api.Expr{Kind: api.EUnary, Name: "-", Args: []api.Expr{a}}
		case 4:
			e = api.Expr{Kind: api.EBinary, Name: "+", Args: []api.Expr{a, b}}
		case 5:
			e = api.Expr{Kind: api.ECond, Args: []api.Expr{a, b, c}}
		case 6:
			e = api.Expr{Kind: api.EMap, Keys: []string{"n", "x"}, Args: []api.Expr{a, b}}
		case 7:
			e = api.Expr{Kind: api.EBinary, Name: "==", Args: []api.Expr{a, b}}
		default:
			text := "$n"[:chance.IntN(3)] + interp.Show([]api.Piece{{Is: true, Expr: a}}) + []string{"", "}", "a$", "${ b }"}[chance.IntN(4)]
			e = lit(str(text))
		}
		if parser.Valid(e) == api.OK && parser.Count(e) < 60 {
			pool = append(pool, e)
		}
	}
	return pool
}

// P15.4: the definitions, and what they are made for: an expression with values is worth what it is worth in an environment with them.
func TestInsertIsDefined(t *testing.T) {
	all := append(values(t), api.Var{Name: "w", Value: str(repeated("\\", 1000))})
	x := []api.Var{{Name: "x", Value: number(9)}}
	changed, long, worth := 0, 0, 0
	for seed := range uint64(6) {
		chance := rand.New(rand.NewPCG(seed, 15))
		for _, e := range grown(t, chance, 1500) {
			vars := slices.Clone(all)
			chance.Shuffle(len(vars), func(i, j int) { vars[i], vars[j] = vars[j], vars[i] })
			vars = vars[:chance.IntN(len(vars)+1)]
			tooLong := 0
			want := define(e, vars, &tooLong)
			got, err := insertedExpr(t, e, vars)
			if tooLong > 0 && err != api.ErrTooLong || tooLong == 0 && (err != api.OK || !parser.Equal(got, want)) {
				t.Fatalf("%s with %v is %s, %v, want %s", parser.Show(e), vars, parser.Show(got), err, parser.Show(want))
			}
			if tooLong > 0 {
				long++
				continue
			}
			if !parser.Equal(got, e) {
				changed++
			}
			v, err := eval.Expr(e, append(x, vars...))
			w, wantErr := eval.Expr(got, x)
			if hasStrings(e) { // they have other bytes now
				continue
			}
			worth++
			if err != wantErr || !value.Equal(v, w) {
				t.Fatalf("%s is worth %s, %v, but with values %s, %v", parser.Show(e), value.Show(v), err, value.Show(w), wantErr)
			}
		}
	}
	if changed < 1000 || long < 10 || worth < 500 {
		t.Errorf("only %d expressions are changed, %d too long, %d worth the same", changed, long, worth)
	}
}

// hasStrings reports whether a literal string with an expression is a part of an expression.
func hasStrings(e api.Expr) bool {
	return e.Kind == api.ELit && strings.Contains(e.Value.Str, "${") || slices.ContainsFunc(e.Args, hasStrings)
}

// P15.4: a string with values is expanded to what it is expanded to in an environment with them.
func TestInsertKeepsTexts(t *testing.T) {
	x := []api.Var{{Name: "x", Value: number(9)}}
	for _, text := range []string{"", "a$$b$", "${n}", "${n + k}-${k}", "$n${s}${d}${q}$", "${l[0]}${m.a}${m[\"b c\"]}", "${b ? x : y}", "${z}${e}|", "${\"${n}\"}${n}", "${\"$${n}$\"}$$${n}", "${len(l)}${x}", "${x}", "${y}", "${n / 0}", "${m}"} {
		e, err := insertedExpr(t, lit(str(text)), values(t))
		if err != api.OK {
			t.Fatalf("%s: %v", text, err)
		}
		want, wantErr := interp.Expand(text, append(x, values(t)...))
		got, err := interp.Expand(e.Value.Str, x)
		// A string in a string has the values inserted, too, but is only a text in the end.
		if strings.Contains(text, "${\"${n}") {
			want = strings.Replace(want, "${n}", "${2}", 1)
		}
		if got != want || err != wantErr {
			t.Errorf("%s with values is expanded to %q, %v, want %q, %v", text, got, err, want, wantErr)
		}
	}
}

// P15.6: an argument of type any, whatever its value is.
func TestAnyArgument(t *testing.T) {
	for i, v := range []api.Value{{}, number(-1), str("${x}$"), list(), deep(16), {Kind: api.VMap}, {Kind: api.VMap, Keys: []string{"a b"}, List: []api.Value{deep(15)}}} {
		source := declare("t", param("v", "any"), "x = v", "use \"u\" {\nw = v\n}") + declare("u", param("w", "any"), "y = [w, w]") + job(use("t", "v = v"))
		ts, f, _ := template.Collect(file(t, source))
		g, err := template.Expand(f, ts, []api.Var{{Name: "v", Value: v}})
		if err != api.OK {
			t.Errorf("the value %d: %v", i, err)
			continue
		}
		x, _ := config.Attr(g.Blocks[0], "x")
		y, _ := config.Attr(g.Blocks[0], "y")
		if !parser.Equal(x, lit(v)) || !parser.Equal(y, api.Expr{Kind: api.EList, Args: []api.Expr{lit(v), lit(v)}}) {
			t.Errorf("the value %d is inserted as %s and %s", i, parser.Show(x), fmt.Sprint(y))
		}
	}
}
