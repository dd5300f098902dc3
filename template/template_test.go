package template_test

import (
	"math"
	"reflect"
	"slices"
	"strings"
	"testing"

	"pipeline/api"
	"pipeline/config"
	"pipeline/eval"
	"pipeline/parser"
	"pipeline/template"
	"pipeline/typing"
	"pipeline/value"
)

func repeated(s string, count int) string { return strings.Repeat(s, count) }

func number(n int) api.Value { return api.Value{Kind: api.VInt, Int: n} }

func str(s string) api.Value { return api.Value{Kind: api.VString, Str: s} }

func list(elements ...api.Value) api.Value { return api.Value{Kind: api.VList, List: elements} }

// deep returns a value of so many levels.
func deep(levels int) api.Value {
	v := number(1)
	for range levels - 1 {
		v = list(v)
	}
	return v
}

func lit(v api.Value) api.Expr { return api.Expr{Kind: api.ELit, Value: v} }

func name(s string) api.Expr { return api.Expr{Kind: api.EName, Name: s} }

func typed(t *testing.T, s string) api.Type {
	t.Helper()
	u, err := typing.Parse(s)
	if err != api.OK {
		t.Fatalf("%s is not a type", s)
	}
	return u
}

func parsed(t *testing.T, source string) api.Expr {
	t.Helper()
	e, _, err := parser.Parse(source)
	if err != api.OK {
		t.Fatalf("Parse(%.200s): %v", source, err)
	}
	return e
}

// evaluated returns the value of a source without variables.
func evaluated(t *testing.T, source string) api.Value {
	t.Helper()
	v, err := eval.Expr(parsed(t, source), nil)
	if err != api.OK {
		t.Fatalf("%.200s: %v", source, err)
	}
	return v
}

func file(t *testing.T, source string) api.File {
	t.Helper()
	f, at, err := config.Parse(source)
	if err != api.OK {
		t.Fatalf("Parse(%.300s): %v at %d", source, err, at)
	}
	return f
}

// shownParams returns the sources of parameters.
func shownParams(ps []api.Param) string {
	var s []string
	for _, p := range ps {
		text := p.Name + " " + typing.Show(p.Type)
		if p.Has {
			text += " " + value.Show(p.Default)
		} else if !value.Equal(p.Default, api.Value{}) {
			text += " a default value without Has"
		}
		s = append(s, text)
	}
	return strings.Join(s, ", ")
}

// shownBody returns the source of a body.
func shownBody(b api.Block) string {
	if b.Kind != "" || b.Name != "" {
		return "the body has a kind or a name"
	}
	b.Kind = "body"
	return config.Show(api.File{Blocks: []api.Block{b}})
}

func isZeroBlock(b api.Block) bool { return reflect.DeepEqual(b, api.Block{}) }

// region is the memory of a list with its spare capacity.
type region struct{ from, to uintptr }

// regions appends the memory of all lists in a value.
func regions(all []region, v reflect.Value) []region {
	switch v.Kind() {
	case reflect.Struct:
		for i := range v.NumField() {
			all = regions(all, v.Field(i))
		}
	case reflect.Slice:
		if size := uintptr(v.Cap()) * v.Type().Elem().Size(); size > 0 {
			all = append(all, region{v.Pointer(), v.Pointer() + size})
		}
		for i := range v.Len() {
			all = regions(all, v.Index(i))
		}
	}
	return all
}

// expectNew checks that no list of the results shares memory with another one, or with one of the arguments. (R5)
func expectNew(t *testing.T, results, arguments []any) {
	t.Helper()
	var all []region
	for _, x := range results {
		all = regions(all, reflect.ValueOf(x))
	}
	own := len(all)
	for _, x := range arguments {
		all = regions(all, reflect.ValueOf(x))
	}
	for i, a := range all[:own] {
		for _, b := range all[i+1:] {
			if a.from < b.to && b.from < a.to {
				t.Fatal("lists share memory")
			}
		}
	}
}

var parameters = []struct{ source, want, rest string }{
	{"", "", "body {\n}\n"},
	{"x = y\nstep \"s\" {\nz = 1\n}\n", "", "body {\n  x = y\n  step \"s\" {\n    z = 1\n  }\n}\n"},
	{"param \"n\" {\ntype = \"int\"\n}\n", "n int", "body {\n}\n"},
	{"param \"n\" {\ntype = \"int\"\ndefault = 1 + 2\n}\n", "n int 3", "body {\n}\n"},
	{"param \"n\" {\ndefault = \"a\" + \"b\"\ntype = \"string\"\n}\n", "n string \"ab\"", "body {\n}\n"},
	{"param \"a\" {\ntype = \"any\"\ndefault = null\n}\n", "a any null", "body {\n}\n"},
	{"param \"a\" {\ntype = \"null\"\ndefault = null\n}\n", "a null null", "body {\n}\n"},
	{"param \"b\" {\ntype = \"bool\"\ndefault = 1 < 2\n}\n", "b bool true", "body {\n}\n"},
	{"param \"l\" {\ntype = \"list(int)\"\ndefault = []\n}\n", "l list(int) []", "body {\n}\n"},
	{"param \"l\" {\ntype = \"list(any)\"\ndefault = [1, \"${x}\"]\n}\n", "l list(any) [1, \"${x}\"]", "body {\n}\n"},
	{"param \"m\" {\ntype = \"map(map(string))\"\ndefault = {a: {}, b: {c: \"d\"}}\n}\n", "m map(map(string)) {\"a\": {}, \"b\": {\"c\": \"d\"}}", "body {\n}\n"},
	{"param \"z\" {\ntype = \"never\"\n}\n", "z never", "body {\n}\n"},
	{"param \"n\" {\ntype = \"\\x69nt\"\n}\n", "n int", "body {\n}\n"},
	{"param \"" + repeated("N", api.MaxName) + "\" {\ntype = \"int\"\n}\n", repeated("N", api.MaxName) + " int", "body {\n}\n"},
	{"param \"type\" {\ntype = \"int\"\n}\nparam \"default\" {\ntype = \"int\"\n}\nparam \"len\" {\ntype = \"int\"\n}\nparam \"_\" {\ntype = \"int\"\n}\n", "type int, default int, len int, _ int", "body {\n}\n"},

	// In order, among attributes and other blocks; names that differ in their case; parameters at other levels.
	{"z = 1\nparam \"b\" {\ntype = \"int\"\n}\nstep {\n}\nparam \"B\" {\ntype = \"int\"\n}\ny = 2\nstep \"s\" {\n}\nparam \"a\" {\ntype = \"int\"\n}\n", "b int, B int, a int", "body {\n  z = 1\n  y = 2\n  step {\n  }\n  step \"s\" {\n  }\n}\n"},
	{"step {\nparam {\nx = 1\n}\n}\n", "", "body {\n  step {\n    param {\n      x = 1\n    }\n  }\n}\n"},
	{"params \"n\" {\ntype = \"int\"\n}\nParam {\n}\n", "", "body {\n  params \"n\" {\n    type = \"int\"\n  }\n  Param {\n  }\n}\n"},
}

// P15.1: the parameters, and the rest of the block.
func TestParams(t *testing.T) {
	for _, x := range parameters {
		b := file(t, "k \"i\" {\n"+x.source+"}\n").Blocks[0]
		ps, rest, err := template.Params(b)
		if err != api.OK || rest.Kind != "k" || rest.Name != "i" {
			t.Errorf("Params of %s: %s %q, %v", x.source, rest.Kind, rest.Name, err)
			continue
		}
		rest.Kind, rest.Name = "", ""
		if got := shownParams(ps); got != x.want || shownBody(rest) != x.rest {
			t.Errorf("Params of %s: %s and %s, want %s and %s", x.source, got, shownBody(rest), x.want, x.rest)
		}
	}
}

const okParam = "param \"n\" {\ntype = \"int\"\n}\n"

var badParameters = []struct {
	source string
	want   api.Errno
}{
	// The name, and nested blocks.
	{"param {\ntype = \"int\"\n}\n", api.ErrInvalid},
	{"param \"true\" {\ntype = \"int\"\n}\n", api.ErrInvalid},
	{"param \"false\" {\ntype = \"int\"\n}\n", api.ErrInvalid},
	{"param \"null\" {\ntype = \"int\"\n}\n", api.ErrInvalid},
	{"param \"1a\" {\ntype = \"int\"\n}\n", api.ErrInvalid},
	{"param \"a-b\" {\ntype = \"int\"\n}\n", api.ErrInvalid},
	{"param \"a.b\" {\ntype = \"int\"\n}\n", api.ErrInvalid},
	{"param \" a\" {\ntype = \"int\"\n}\n", api.ErrInvalid},
	{"param \"${a}\" {\ntype = \"int\"\n}\n", api.ErrInvalid},
	{"param \"n\" {\ntype = \"int\"\nx {\n}\n}\n", api.ErrInvalid},
	{"param \"n\" {\nparam \"m\" {\ntype = \"int\"\n}\ntype = \"int\"\n}\n", api.ErrInvalid},

	// The attributes.
	{"param \"n\" {\ntype = \"int\"\nkind = 1\n}\n", api.ErrName},
	{"param \"n\" {\nType = \"int\"\n}\n", api.ErrName},
	{"param \"n\" {\ntype = \"int\"\ndefaults = 1\n}\n", api.ErrName},
	{"param \"n\" {\n}\n", api.ErrNotFound},
	{"param \"n\" {\ndefault = 1\n}\n", api.ErrNotFound},
	{"param \"n\" {\ntype = 1\n}\n", api.ErrType},
	{"param \"n\" {\ntype = null\n}\n", api.ErrType},
	{"param \"n\" {\ntype = int\n}\n", api.ErrType},
	{"param \"n\" {\ntype = \"in\" + \"t\"\n}\n", api.ErrType},
	{"param \"n\" {\ntype = string(\"int\")\n}\n", api.ErrType},
	{"param \"n\" {\ntype = [\"int\"]\n}\n", api.ErrType},
	{"param \"n\" {\ntype = \"\"\n}\n", api.ErrSyntax},
	{"param \"n\" {\ntype = \"integer\"\n}\n", api.ErrSyntax},
	{"param \"n\" {\ntype = \"list( int)\"\n}\n", api.ErrSyntax},
	{"param \"n\" {\ntype = \"${x}\"\n}\n", api.ErrSyntax},
	{"param \"n\" {\ntype = \"" + repeated("list(", 16) + "int" + repeated(")", 16) + "\"\n}\n", api.ErrDepth},

	// The default value.
	{"param \"n\" {\ntype = \"any\"\ndefault = x\n}\n", api.ErrName},
	{"param \"n\" {\ntype = \"any\"\ndefault = n\n}\n", api.ErrName},
	{"param \"n\" {\ntype = \"any\"\ndefault = success\n}\n", api.ErrName},
	{"param \"n\" {\ntype = \"any\"\ndefault = f(1)\n}\n", api.ErrName},
	{"param \"n\" {\ntype = \"any\"\ndefault = 1 / 0\n}\n", api.ErrDivide},
	{"param \"n\" {\ntype = \"any\"\ndefault = 9007199254740992 + 1\n}\n", api.ErrOverflow},
	{"param \"n\" {\ntype = \"any\"\ndefault = 1 + \"a\"\n}\n", api.ErrType},
	{"param \"n\" {\ntype = \"any\"\ndefault = [][0]\n}\n", api.ErrNotFound},
	{"param \"n\" {\ntype = \"any\"\ndefault = " + repeated("[", 15) + "[]" + repeated("]", 15) + "\n}\n", api.ErrDepth},
	{"param \"n\" {\ntype = \"any\"\ndefault = int(\"a\")\n}\n", api.ErrInvalid},
	{"param \"n\" {\ntype = \"int\"\ndefault = \"a\"\n}\n", api.ErrType},
	{"param \"n\" {\ntype = \"int\"\ndefault = null\n}\n", api.ErrType},
	{"param \"n\" {\ntype = \"list(int)\"\ndefault = [1, \"a\"]\n}\n", api.ErrType},
	{"param \"n\" {\ntype = \"never\"\ndefault = 1\n}\n", api.ErrType},

	// The same name twice.
	{okParam + okParam, api.ErrExists},
	{okParam + "x = 1\nstep {\n}\nparam \"m\" {\ntype = \"int\"\n}\nparam \"n\" {\ntype = \"string\"\ndefault = \"\"\n}\n", api.ErrExists},

	// Which error comes first of one block.
	{"param {\nkind = 1\n}\n", api.ErrInvalid},
	{"param \"n\" {\nkind = 1\nx {\n}\n}\n", api.ErrInvalid},
	{"param \"n\" {\nkind = 1\n}\n", api.ErrName},
	{"param \"n\" {\ntype = 1\ndefault = 1 / 0\nkind = 1\n}\n", api.ErrName},
	{"param \"n\" {\ndefault = 1 / 0\n}\n", api.ErrNotFound},
	{"param \"n\" {\ndefault = 1 / 0\ntype = 1\n}\n", api.ErrType},
	{"param \"n\" {\ndefault = 1 / 0\ntype = \"integer\"\n}\n", api.ErrSyntax},
	{okParam + "param \"n\" {\ntype = \"int\"\nx {\n}\n}\n", api.ErrInvalid},
	{okParam + "param \"n\" {\ntype = \"int\"\nx = 1\n}\n", api.ErrName},
	{okParam + "param \"n\" {\n}\n", api.ErrNotFound},
	{okParam + "param \"n\" {\ntype = \"integer\"\n}\n", api.ErrSyntax},
	{okParam + "param \"n\" {\ntype = \"int\"\ndefault = 1 / 0\n}\n", api.ErrDivide},
	{okParam + "param \"n\" {\ntype = \"int\"\ndefault = true\n}\n", api.ErrType},

	// Block by block.
	{okParam + okParam + "param {\n}\n", api.ErrExists},
	{"param \"a\" {\n}\n" + okParam + okParam, api.ErrNotFound},
	{"param \"a\" {\ntype = \"integer\"\n}\nparam {\n}\n", api.ErrSyntax},
	{"param \"a\" {\ntype = \"int\"\ndefault = x\n}\nparam {\n}\n", api.ErrName},
}

// P15.1, P15.2: the errors, without results.
func TestParamsErrors(t *testing.T) {
	for _, x := range badParameters {
		f := file(t, "template \"t\" {\n"+x.source+"}\n")
		ps, rest, err := template.Params(f.Blocks[0])
		if err != x.want || len(ps) != 0 || !isZeroBlock(rest) {
			t.Errorf("Params of %s: %v, %v, %v, want %v", x.source, ps, rest, err, x.want)
		}
		ts, g, err := template.Collect(f)
		if err != x.want || len(ts) != 0 || len(g.Blocks) != 0 {
			t.Errorf("Collect of %s: %v, %v, %v, want %v", x.source, ts, g, err, x.want)
		}
	}
	long := api.Block{Kind: "param", Name: repeated("n", api.MaxName+1), Attrs: []api.Attr{{Name: "type", Expr: lit(str("int"))}}}
	if _, _, err := template.Params(api.Block{Kind: "k", Blocks: []api.Block{long}}); err != api.ErrInvalid {
		t.Errorf("Params of a long name: %v", err)
	}
}

// P15.2: the templates, and the rest of the file.
func TestCollect(t *testing.T) {
	long := "0" + repeated("-", api.MaxName-1)
	for _, x := range []struct {
		source    string
		templates []string // name, parameters, body
		rest      string
	}{
		{"", nil, ""},
		{"job \"a\" {\nx = 1\n}\nuse \"t\" {\n}\n", nil, "job \"a\" {\n  x = 1\n}\nuse \"t\" {\n}\n"},
		{"template \"t\" {\n}\n", []string{"t", "", "body {\n}\n"}, ""},
		{"template \"" + long + "\" {\n}\n", []string{long, "", "body {\n}\n"}, ""},
		{"job {\n}\ntemplate \"b.2\" {\nx = n\n" + okParam + "use \"b.2\" {\nn = n\n}\n}\nuse \"q\" {\n}\ntemplate \"a_-\" {\n" + okParam + "}\njob {\n}\n",
			[]string{"b.2", "n int", "body {\n  x = n\n  use \"b.2\" {\n    n = n\n  }\n}\n", "a_-", "n int", "body {\n}\n"}, "job {\n}\nuse \"q\" {\n}\njob {\n}\n"},
		{"template \"t1\" {\n}\ntemplate \"t01\" {\n}\n", []string{"t1", "", "body {\n}\n", "t01", "", "body {\n}\n"}, ""},

		// Templates, and what would be none, at other levels.
		{"job {\ntemplate \"t\" {\n}\ntemplate {\nparam {\n}\n}\n}\n", nil, "job {\n  template \"t\" {\n  }\n  template {\n    param {\n    }\n  }\n}\n"},
		{"template \"t\" {\ntemplate \"t\" {\nparam {\n}\n}\n}\n", []string{"t", "", "body {\n  template \"t\" {\n    param {\n    }\n  }\n}\n"}, ""},
		{"param {\n}\njob {\nparam {\n}\n}\ntemplates \"t\" {\n}\nTemplate {\n}\n", nil, "param {\n}\njob {\n  param {\n  }\n}\ntemplates \"t\" {\n}\nTemplate {\n}\n"},
	} {
		ts, rest, err := template.Collect(file(t, x.source))
		var got []string
		for _, c := range ts {
			got = append(got, c.Name, shownParams(c.Params), shownBody(c.Body))
		}
		if err != api.OK || !slices.Equal(got, x.templates) || config.Show(rest) != x.rest {
			t.Errorf("Collect of %s: %q and %s, %v, want %q and %s", x.source, got, config.Show(rest), err, x.templates, x.rest)
		}
	}
}

// P15.2
func TestCollectErrors(t *testing.T) {
	empty := func(name string) string { return "template \"" + name + "\" {\n}\n" }
	bad := "template \"b\" {\nparam \"n\" {\n}\n}\n"
	for _, x := range []struct {
		source string
		want   api.Errno
	}{
		{"template {\n}\n", api.ErrInvalid},
		{empty("T"), api.ErrInvalid},
		{empty("-a"), api.ErrInvalid},
		{empty("a/b"), api.ErrInvalid},
		{empty("${n}"), api.ErrInvalid},
		{empty("t") + empty("t"), api.ErrExists},
		{empty("t") + empty("u") + "job {\n}\n" + empty("t"), api.ErrExists},

		// Which error comes first of one block, and of several.
		{"template {\nparam \"n\" {\n}\n}\n", api.ErrInvalid},
		{bad + "template {\n}\n", api.ErrNotFound},
		{"template {\n}\n" + bad, api.ErrInvalid},
		{empty("b") + bad, api.ErrNotFound},
		{bad + empty("b"), api.ErrNotFound},
		{empty("t") + empty("t") + bad, api.ErrExists},
		{"job {\n}\n" + empty("t") + "job {\n}\n" + empty("T") + empty("t"), api.ErrInvalid},
	} {
		ts, g, err := template.Collect(file(t, x.source))
		if err != x.want || len(ts) != 0 || len(g.Blocks) != 0 {
			t.Errorf("Collect of %s: %v, %v, %v, want %v", x.source, ts, g, err, x.want)
		}
	}
	for _, x := range invalidFiles() {
		x.f.Blocks = append([]api.Block{{Kind: "template"}}, x.f.Blocks...)
		ts, g, err := template.Collect(x.f)
		if err != x.want || len(ts) != 0 || len(g.Blocks) != 0 {
			t.Errorf("Collect of a file that is not valid: %v, want %v", err, x.want)
		}
	}
}

type badFile struct {
	f    api.File
	want api.Errno
}

// invalidFiles are files that are not valid, also behind another block.
func invalidFiles() []badFile {
	block := func(b api.Block) api.File { return api.File{Blocks: []api.Block{b}} }
	attr := func(e api.Expr) api.File {
		return block(api.Block{Kind: "k", Attrs: []api.Attr{{Name: "x", Expr: e}}})
	}
	tower := api.Block{Kind: "k"}
	for range api.MaxDepth {
		tower = api.Block{Kind: "k", Blocks: []api.Block{tower}}
	}
	return []badFile{
		{api.File{Blocks: slices.Repeat([]api.Block{{Kind: "k"}}, api.MaxList+1)}, api.ErrTooLong},
		{block(tower), api.ErrDepth},
		{block(api.Block{}), api.ErrInvalid},
		{block(api.Block{Kind: "null"}), api.ErrInvalid},
		{block(api.Block{Kind: "template", Name: repeated("t", api.MaxName+1)}), api.ErrInvalid},
		{attr(api.Expr{}), api.ErrInvalid},
		{attr(lit(number(math.MaxInt))), api.ErrRange},
		{attr(lit(str(repeated("s", api.MaxString+1)))), api.ErrTooLong},
		{block(api.Block{Kind: "k", Attrs: []api.Attr{{Name: "x", Expr: lit(number(1))}, {Name: "x", Expr: lit(number(1))}}}), api.ErrExists},
	}
}

// P15.3
func TestBind(t *testing.T) {
	n := api.Param{Name: "n", Type: typed(t, "int")}
	s := api.Param{Name: "s", Type: typed(t, "string"), Has: true, Default: str("d")}
	l := api.Param{Name: "l", Type: typed(t, "list(int)"), Has: true, Default: list(number(7))}
	a := api.Param{Name: "a", Type: typed(t, "any")}
	arg := func(name string, v api.Value) api.Var { return api.Var{Name: name, Value: v} }
	one, two := arg("n", number(1)), arg("n", number(2))
	many, args := []api.Param{}, []api.Var{}
	for i := range 2000 {
		name := repeated("p", i+1)
		many = append(many, api.Param{Name: name, Type: typed(t, "int")})
		args = append([]api.Var{arg(name, number(i))}, args...)
	}
	for _, x := range []struct {
		ps   []api.Param
		args []api.Var
		want string
		err  api.Errno
	}{
		{nil, nil, "", api.OK},
		{[]api.Param{n}, []api.Var{one}, "n=1", api.OK},
		{[]api.Param{s, n, l}, []api.Var{one}, "s=\"d\" n=1 l=[7]", api.OK},
		{[]api.Param{s, n, l}, []api.Var{arg("l", list()), one, arg("s", str(""))}, "s=\"\" n=1 l=[]", api.OK},
		{[]api.Param{a}, []api.Var{arg("a", api.Value{})}, "a=null", api.OK},
		{[]api.Param{{Name: "a", Type: typed(t, "any"), Has: true, Default: number(3)}}, []api.Var{arg("a", api.Value{})}, "a=null", api.OK},
		{[]api.Param{a}, []api.Var{arg("a", deep(16))}, "a=" + value.Show(deep(16)), api.OK},
		{[]api.Param{s}, nil, "s=\"d\"", api.OK},
		{[]api.Param{{Name: "s", Type: typed(t, "string"), Has: true}}, nil, "s=null", api.OK}, // the default value is not checked
		{many[:1000], args[1000:], "", api.OK},

		{nil, []api.Var{one}, "", api.ErrName},
		{[]api.Param{s}, []api.Var{one}, "", api.ErrName},
		{[]api.Param{n}, []api.Var{arg("N", number(1))}, "", api.ErrName},
		{[]api.Param{n}, []api.Var{one, one}, "", api.ErrExists},
		{[]api.Param{n, s}, []api.Var{one, arg("s", str("")), two}, "", api.ErrExists},
		{[]api.Param{n}, []api.Var{arg("n", str("1"))}, "", api.ErrType},
		{[]api.Param{n}, []api.Var{arg("n", api.Value{})}, "", api.ErrType},
		{[]api.Param{l}, []api.Var{arg("l", list(number(1), str("")))}, "", api.ErrType},
		{[]api.Param{n}, []api.Var{arg("n", number(api.MaxNumber+1))}, "", api.ErrType},
		{[]api.Param{a}, []api.Var{arg("a", deep(17))}, "", api.ErrType},
		{[]api.Param{a}, []api.Var{arg("a", api.Value{Kind: 6})}, "", api.ErrType},
		{[]api.Param{{Name: "n", Type: api.Type{Kind: 8}}}, []api.Var{one}, "", api.ErrType},
		{[]api.Param{n}, nil, "", api.ErrNotFound},
		{[]api.Param{s, a, l}, []api.Var{arg("s", str("")), arg("l", list())}, "", api.ErrNotFound},
		{[]api.Param{{Name: "n", Type: typed(t, "int"), Default: number(1)}}, nil, "", api.ErrNotFound}, // no default value, as Has is not set

		// Which error comes first of one argument.
		{[]api.Param{s}, []api.Var{arg("x", number(math.MaxInt))}, "", api.ErrName},
		{[]api.Param{s}, []api.Var{arg("x", number(1)), arg("x", number(1))}, "", api.ErrName},
		{[]api.Param{n}, []api.Var{one, arg("n", str("1"))}, "", api.ErrExists},

		// Argument by argument, and then the parameters.
		{[]api.Param{n, s}, []api.Var{one, two, arg("x", number(1))}, "", api.ErrExists},
		{[]api.Param{n, s}, []api.Var{one, arg("x", number(1)), two}, "", api.ErrName},
		{[]api.Param{n, s}, []api.Var{arg("s", number(1)), one, one}, "", api.ErrType},
		{[]api.Param{n, s}, []api.Var{one, one, arg("s", number(1))}, "", api.ErrExists},
		{[]api.Param{n, a}, []api.Var{arg("n", str(""))}, "", api.ErrType},
		{[]api.Param{n, s}, []api.Var{arg("x", number(1))}, "", api.ErrName},
		{[]api.Param{n, a}, []api.Var{arg("a", str("")), arg("a", str(""))}, "", api.ErrExists},

		// Among parameters with the same name the first one states the type; each of them has the value of the argument, or its own default value.
		{[]api.Param{s, {Name: "s", Type: typed(t, "int"), Has: true, Default: number(5)}}, nil, "s=\"d\" s=5", api.OK},
		{[]api.Param{s, {Name: "s", Type: typed(t, "int")}}, []api.Var{arg("s", str("v"))}, "s=\"v\" s=\"v\"", api.OK},
		{[]api.Param{s, {Name: "s", Type: typed(t, "int")}}, []api.Var{arg("s", number(1))}, "", api.ErrType},
	} {
		vars, err := template.Bind(x.ps, x.args)
		var shown []string
		for _, v := range vars {
			shown = append(shown, v.Name+"="+value.Show(v.Value))
		}
		if err != x.err || x.want != "" && strings.Join(shown, " ") != x.want || err != api.OK && len(vars) != 0 {
			t.Errorf("Bind(%s, %v) = %q, %v, want %q, %v", shownParams(x.ps), x.args, shown, err, x.want, x.err)
		}
	}
	vars, err := template.Bind(many, args)
	for i, v := range vars {
		if v.Name != many[i].Name || v.Value.Int != i {
			t.Fatalf("Bind of many: %s is %v", v.Name, v.Value)
		}
	}
	if err != api.OK || len(vars) != len(many) {
		t.Errorf("Bind of many: %d, %v", len(vars), err)
	}
}

// R5
func TestMemory(t *testing.T) {
	f := file(t, "a {\nx = [y, {b: [1]}]\nc {\nx = [y]\n}\n}\ntemplate \"t\" {\nx = [y, {b: [1]}]\nparam \"l\" {\ntype = \"list(any)\"\ndefault = [[1], [1]]\n}\nc {\nx = [y]\n}\nc {\nx = [y]\n}\n}\n")
	f.Blocks = append(f.Blocks, api.Block{Kind: "z", Attrs: []api.Attr{{Name: "x", Expr: lit(list(list(), list(number(1))))}}})
	ts, g, _ := template.Collect(f)
	expectNew(t, []any{ts, g}, []any{f})
	ps, rest, _ := template.Params(f.Blocks[1])
	expectNew(t, []any{ps, rest}, []any{f})
	ps = []api.Param{ps[0], ps[0], {Name: "m", Type: typed(t, "any")}}
	args := []api.Var{{Name: "m", Value: list(list(number(1)))}}
	vars, err := template.Bind(ps, args)
	if err != api.OK || len(vars) != 3 {
		t.Fatalf("Bind: %v", err)
	}
	expectNew(t, []any{vars}, []any{ps, args})
	vars, _ = template.Bind([]api.Param{ps[2], ps[2]}, args)
	expectNew(t, []any{vars}, []any{ps, args})
}
