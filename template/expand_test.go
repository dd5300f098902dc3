package template_test

import (
	"fmt"
	"math/rand/v2"
	"reflect"
	"slices"
	"strings"
	"testing"

	"pipeline/api"
	"pipeline/config"
	"pipeline/eval"
	"pipeline/template"
)

// expand returns the source of the file that the rest of a file is expanded to with its own templates.
func expand(t *testing.T, source string, env []api.Var) (string, api.Errno) {
	t.Helper()
	ts, f, err := template.Collect(file(t, source))
	if err != api.OK {
		t.Fatalf("Collect of %.300s: %v", source, err)
	}
	g, err := template.Expand(f, ts, env)
	if err != api.OK && len(g.Blocks) != 0 {
		t.Errorf("%.300s: a result with %v", source, err)
	}
	return config.Show(g), err
}

func expectExpanded(t *testing.T, source string, env []api.Var, want string, wantErr api.Errno) {
	t.Helper()
	if got, err := expand(t, source, env); got != want || err != wantErr {
		t.Errorf("%.600s\nis expanded to\n%.600s%v, want\n%.600s%v", source, got, err, want, wantErr)
	}
}

// environment has a variable of each kind of value.
func environment(t *testing.T) []api.Var {
	t.Helper()
	var env []api.Var
	for _, x := range []struct{ name, source string }{
		{"i", "7"}, {"j", "-4"}, {"b", "true"}, {"z", "null"}, {"s", `"a\"$"`}, {"u", `"${q}"`}, {"l", `[1, "x"]`}, {"m", `{k: 2, "k 3": []}`},
	} {
		env = append(env, api.Var{Name: x.name, Value: evaluated(t, x.source)})
	}
	return env
}

// declare returns the source of a template.
func declare(name string, lines ...string) string {
	return "template \"" + name + "\" {\n" + strings.Join(lines, "\n") + "\n}\n"
}

// param returns the source of a parameter; more is the rest of its attributes.
func param(name, kind string, more ...string) string {
	return "param \"" + name + "\" {\ntype = \"" + kind + "\"\n" + strings.Join(more, "\n") + "\n}"
}

// use returns the source of a use.
func use(name string, args ...string) string {
	return "use \"" + name + "\" {\n" + strings.Join(args, "\n") + "\n}\n"
}

func job(lines ...string) string { return "job {\n" + strings.Join(lines, "\n") + "\n}\n" }

// P15.4: what stands in the place of a use, and in which order.
func TestExpand(t *testing.T) {
	attrs, blocks := declare("attrs", "x = 1", "y = 2"), declare("blocks", "c {\nx = 1\n}", "d \"n\" {\n}")
	both := declare("both", "e {\n}", "x = 1", "f {\n}", "y = 2")
	inner := declare("inner", "use \"both\" {\n}", "z = 3", "g {\nuse \"attrs\" {\n}\n}")
	for _, x := range []struct{ source, want string }{
		{"", ""},
		{attrs, ""},
		{attrs + job(use("attrs")), "job {\n  x = 1\n  y = 2\n}\n"},
		{attrs + job("w = 0", use("attrs"), "v = 4"), "job {\n  w = 0\n  v = 4\n  x = 1\n  y = 2\n}\n"},
		{blocks + job("a {\n}", use("blocks"), "b {\n}"), "job {\n  a {\n  }\n  c {\n    x = 1\n  }\n  d \"n\" {\n  }\n  b {\n  }\n}\n"},
		{blocks + job(use("blocks"), use("blocks")), "job {\n" + repeated("  c {\n    x = 1\n  }\n  d \"n\" {\n  }\n", 2) + "}\n"},
		{job(use("both"), "w = 0", "a {\n}") + both, "job {\n  w = 0\n  x = 1\n  y = 2\n  e {\n  }\n  f {\n  }\n  a {\n  }\n}\n"},
		{attrs + job("a {\n"+use("attrs")+"b {\n"+use("attrs")+"}\n}\n"), "job {\n  a {\n    x = 1\n    y = 2\n    b {\n      x = 1\n      y = 2\n    }\n  }\n}\n"},

		// At the top level.
		{blocks + use("blocks"), "c {\n  x = 1\n}\nd \"n\" {\n}\n"},
		{"a {\n}\n" + use("blocks") + "b {\n}\n" + blocks + use("blocks"), "a {\n}\nc {\n  x = 1\n}\nd \"n\" {\n}\nb {\n}\nc {\n  x = 1\n}\nd \"n\" {\n}\n"},
		{declare("t") + use("t") + "a {\n}\n" + job(use("t")), "a {\n}\njob {\n}\n"},

		// Uses in templates.
		{inner + both + attrs + job("w = 0", use("inner")), "job {\n  w = 0\n  z = 3\n  x = 1\n  y = 2\n  e {\n  }\n  f {\n  }\n  g {\n    x = 1\n    y = 2\n  }\n}\n"},
		{declare("o", use("blocks"), "a {\n}") + blocks + use("o"), "c {\n  x = 1\n}\nd \"n\" {\n}\na {\n}\n"},
		{declare("o", use("t"), use("attrs"), use("t")) + attrs + declare("t") + job(use("o")), "job {\n  x = 1\n  y = 2\n}\n"},

		// Blocks that are no uses of templates, nor templates.
		{attrs + "Use \"attrs\" {\n}\nuses {\nuse \"attrs\" {\n}\n}\n", "Use \"attrs\" {\n}\nuses {\n  x = 1\n  y = 2\n}\n"},
		{attrs + job("template \"t\" {\nparam \"p\" {\nuse \"attrs\" {\n}\n}\n}"), "job {\n  template \"t\" {\n    param \"p\" {\n      x = 1\n      y = 2\n    }\n  }\n}\n"},
		{declare("t", "a {\nparam \"p\" {\n}\n}", param("p", "int", "default = 1"), "template \"b\" {\nx = p\n}") + job(use("t")), "job {\n  a {\n    param \"p\" {\n    }\n  }\n  template \"b\" {\n    x = 1\n  }\n}\n"},

		// Only what comes from templates is changed.
		{declare("t") + "job \"${x}$$\" {\nx = p\ny = \"${p}$$$\"\nuse \"t\" {\n}\n}\n", "job \"${x}$$\" {\n  x = p\n  y = \"${p}$$$\"\n}\n"},
	} {
		expectExpanded(t, x.source, environment(t), x.want, api.OK)
	}
}

// P15.4: the arguments, and what they are evaluated with.
func TestArguments(t *testing.T) {
	v := declare("t", param("v", "any"), "x = v")
	w := declare("w", param("p", "any"), param("q", "any"), use("t", "v = [p, q, i]"))
	for _, x := range []struct{ source, want string }{
		{v + job(use("t", "v = 1")), "1"},
		{v + job(use("t", "v = i + 1")), "8"},
		{v + job(use("t", "v = [j, z, m]")), "[-4, null, {\"k\": 2, \"k 3\": []}]"},
		{v + job(use("t", "v = s + \"$\"")), "\"a\\\"$$\""},
		{v + job(use("t", "v = \"${i}$$\"")), "\"${i}$$\""}, // an argument is no text
		{v + job(use("t", "v = b || undefined")), "true"},
		{v + w + job(use("w", "p = i", "q = 1")), "[7, 1, 7]"},
		{v + w + job(use("w", "p = \"q\"", "q = \"${p}\"")), "[\"q\", \"${p}\", 7]"},                          // values are not rewritten again
		{declare("t", param("i", "any"), "x = [i, j]") + job(use("t", "i = i + 1")), "[8, j]"},                // names of the environment stay
		{v + declare("w", param("i", "int"), use("t", "v = [i, j]")) + job(use("w", "i = 100")), "[100, -4]"}, // a parameter is before a variable
		{declare("t", param("v", "int", "default = 5"), "x = v") + job(use("t")), "5"},
		{declare("t", param("v", "int", "default = 5"), "x = v") + job(use("t", "v = 6")), "6"},
		{declare("t", param("a", "int"), param("c", "int"), "x = [a, c]") + job(use("t", "c = 1", "a = 2")), "[2, 1]"},
		{declare("t", param("n", "string"), use("${n}", "v = n")) + declare("u2", param("v", "any"), "x = v") + job(use("t", "n = \"u2\"")), "\"u2\""},
	} {
		expectExpanded(t, x.source, environment(t), "job {\n  x = "+x.want+"\n}\n", api.OK)
	}
}

// P15.4: the errors of uses, without results.
func TestExpandErrors(t *testing.T) {
	ts := declare("t", param("n", "int"), param("s", "string", "default = \"\""), "x = n", "a {\n}")
	free := declare("free", "a {\n}")
	for _, x := range []struct {
		source string
		want   api.Errno
	}{
		{ts + job(use("t", "n = 1", "y {\n}")), api.ErrInvalid},
		{ts + job(use("t", "n = 1", use("free"))) + free, api.ErrInvalid},
		{ts + job(use("none")), api.ErrNotFound},
		{ts + job("use {\n}"), api.ErrNotFound},
		{ts + job(use("T", "n = 1")), api.ErrNotFound},
		{ts + job(use("t", "n = undefined")), api.ErrName},
		{ts + job(use("t", "n = n")), api.ErrName},
		{ts + job(use("t", "n = 1 / 0")), api.ErrDivide},
		{ts + job(use("t", "n = m.none")), api.ErrNotFound},
		{ts + job(use("t", "m = 1")), api.ErrName},
		{ts + job(use("t", "n = \"1\"")), api.ErrType},
		{ts + job(use("t", "s = \"1\"")), api.ErrNotFound},
		{ts + job(use("t")), api.ErrNotFound},
		{ts + job("x = 0", use("t", "n = 1")), api.ErrExists},
		{ts + job(use("t", "n = 1"), "y = 1", use("t", "n = 2")), api.ErrExists},
		{ts + job(use("t", "n = 1"), "x = 1"), api.ErrExists},
		{declare("o", "x = 1", use("i")) + declare("i", "x = 2") + job(use("o")), api.ErrExists},
		{declare("o", use("i"), use("i")) + declare("i", "x = 2") + job(use("o")), api.ErrExists},
		{use("t", "n = 1") + ts, api.ErrInvalid},
		{use("o") + declare("o", use("t", "n = 1")) + ts, api.ErrInvalid},
		{job(use("o")) + declare("o", use("o")), api.ErrDepth},
		{use("o") + declare("o", "a {\nuse \"p\" {\n}\n}") + declare("p", "a {\nuse \"o\" {\n}\n}"), api.ErrDepth},

		// Which error comes first of one use.
		{job(use("none", "y {\n}")), api.ErrInvalid},
		{job(use("none", "n = 1 / 0")), api.ErrNotFound},
		{job(use("o")) + declare("o", use("o", "x = 1 / 0")), api.ErrDivide},
		{job(use("o")) + declare("o", "use \"o\" {\ny {\n}\n}"), api.ErrInvalid},
		{ts + job(use("t", "m = 1 / 0")), api.ErrDivide},
		{ts + job(use("t", "m = 1", "n = 1 / 0")), api.ErrDivide},
		{ts + job(use("t", "s = 1", "m = undefined", "n = 1 / 0")), api.ErrName},
		{ts + job(use("t", "s = 1", "m = 1")), api.ErrType},
		{ts + job(use("t", "m = 1", "s = 1")), api.ErrName},
		{declare("o", param("n", "int"), "a \"${undefined}\" {\n}") + job(use("o")), api.ErrNotFound},
		{declare("o", "a \"${undefined}\" {\n}", use("none")) + job(use("o")), api.ErrName},
		{declare("o", use("none"), "a \"${undefined}\" {\n}") + job(use("o")), api.ErrName},
		{declare("o", use("${undefined}")) + job(use("o")), api.ErrName},
		{declare("o", "x = 1", use("none")) + job("x = 0", use("o")), api.ErrNotFound},
		{declare("o", "x = 1", use("none")) + use("o"), api.ErrNotFound},

		// Block by block.
		{ts + job(use("t"), use("t", "n = \"\"")), api.ErrNotFound},
		{ts + job(use("t", "n = \"\""), use("t")), api.ErrType},
		{ts + job("a {\n"+use("t", "n = \"\"")+"}", use("none")), api.ErrType},
		{ts + job(use("none"), "a {\n"+use("t", "n = \"\"")+"}"), api.ErrNotFound},
		{ts + job(use("t", "n = 1"), use("t", "n = 1"), use("none")), api.ErrExists},
		{ts + job(use("t", "n = 1"), use("none"), use("t", "n = 1")), api.ErrNotFound},
		{ts + job("x = 0", use("t", "n = 1"), use("none")), api.ErrExists},
		{ts + job("x = 0", use("none"), use("t", "n = 1")), api.ErrNotFound},
		{declare("o", "x = 1", use("i"), use("none")) + declare("i", "x = 2") + job(use("o")), api.ErrExists},
		{ts + use("t", "n = 1") + use("none"), api.ErrInvalid},
		{ts + use("none") + use("t", "n = 1"), api.ErrNotFound},
		{ts + declare("o", use("t", "n = true"), "a {\n}") + job(use("o"), use("none")), api.ErrType},
	} {
		expectExpanded(t, x.source, environment(t), "", x.want)
	}
}

// chain returns templates each of which uses the next one, and the last of which has an attribute.
func chain(count int) string {
	var s strings.Builder
	for i := range count - 1 {
		s.WriteString(declare(fmt.Sprint("t", i), param("n", "int"), use(fmt.Sprint("t", i+1), "n = n + 1")))
	}
	return s.String() + declare(fmt.Sprint("t", count-1), param("n", "int"), "x = n")
}

// P15.6: chains of MaxDepth templates, and of one more.
func TestChains(t *testing.T) {
	for _, count := range []int{1, 2, api.MaxDepth - 1, api.MaxDepth} {
		want := fmt.Sprintf("job {\n  x = %d\n}\n", count-1)
		expectExpanded(t, chain(count)+job(use("t0", "n = 0")), nil, want, api.OK)
		nested := repeated("a {\n", 15) + use("t0", "n = 0") + repeated("}\n", 15)
		if _, err := expand(t, chain(count)+nested, nil); err != api.OK {
			t.Errorf("a chain of %d that is used at level 16: %v", count, err)
		}
	}
	expectExpanded(t, chain(api.MaxDepth+1)+job(use("t0", "n = 0")), nil, "", api.ErrDepth)
	expectExpanded(t, chain(api.MaxDepth+1)+job(use("t1", "n = 0")), nil, "job {\n  x = 15\n}\n", api.OK)
	expectExpanded(t, chain(api.MaxDepth+1)+job(use("t0", "n = \"a\"")), nil, "", api.ErrType)

	// ErrDepth is before the errors of the arguments and of Bind, and after ErrNotFound.
	last := declare("last", use("%s", "x = 1 / 0"))
	for used, want := range map[string]api.Errno{"none": api.ErrNotFound, "last": api.ErrDepth, "t14": api.ErrDepth} {
		links := strings.ReplaceAll(chain(15), "  x = n", "")
		links = strings.Replace(links, "x = n\n}", use("last")+"}", 1)
		expectExpanded(t, links+strings.ReplaceAll(last, "%s", used)+job(use("t0", "n = 0")), nil, "", want)
	}
}

// P15.4: MaxNodes uses, and one more.
func TestManyUses(t *testing.T) {
	empty, two := declare("e"), declare("two", use("e"), use("e"))
	full := job(repeated(use("e"), 1024))
	expectExpanded(t, empty+repeated(full, 4), nil, repeated("job {\n}\n", 4), api.OK)
	expectExpanded(t, empty+repeated(full, 4)+job(use("e")), nil, "", api.ErrLimit)
	expectExpanded(t, empty+repeated(full, 4)+job(use("e", "y {\n}")), nil, "", api.ErrInvalid)
	expectExpanded(t, empty+repeated(full, 4)+job(use("none")), nil, "", api.ErrNotFound)
	expectExpanded(t, empty+repeated(full, 4)+job(use("e", "x = 1 / 0")), nil, "", api.ErrLimit)
	expectExpanded(t, empty+repeated(full, 3)+job(repeated(use("e"), 1023), use("e", "x = 1")), nil, "", api.ErrName)

	// Uses in templates count as well: 1365 with two in each are 4095.
	pairs := job(repeated(use("two"), 683)) + job(repeated(use("two"), 682))
	expectExpanded(t, empty+two+pairs, nil, "job {\n}\njob {\n}\n", api.OK)
	expectExpanded(t, empty+two+pairs+use("e"), nil, "job {\n}\njob {\n}\n", api.OK)
	expectExpanded(t, empty+two+pairs+use("e")+use("e"), nil, "", api.ErrLimit)
	expectExpanded(t, empty+two+pairs+use("two"), nil, "", api.ErrLimit)

	// A tree of 2^15 uses of a large template ends at the limit.
	tree := declare("t14", repeated("a {\n}\n", 500))
	for i := range 14 {
		tree += declare(fmt.Sprint("t", i), repeated(use(fmt.Sprint("t", i+1)), 2))
	}
	expectExpanded(t, tree+use("t0"), nil, "", api.ErrLimit)

	// A use at MaxDepth is ErrDepth, also after MaxNodes uses.
	links := strings.ReplaceAll(chain(16), "x = n\n}", "x = n\n"+use("e")+"}")
	expectExpanded(t, empty+links+repeated(full, 3)+job(repeated(use("e"), 1008))+job(use("t0", "n = 0")), nil, "", api.ErrDepth)
}

// P15.4: the order of all errors: the file, the environment, the uses, and the result.
func TestErrorsInOrder(t *testing.T) {
	ts, f, err := template.Collect(file(t, declare("t", param("n", "int", "default = 1"))+job(use("none"))))
	if err != api.OK {
		t.Fatal(err)
	}
	bad := []api.Var{{Name: "x", Value: number(api.MaxNumber + 1)}}
	for _, x := range invalidFiles() {
		for _, env := range [][]api.Var{nil, bad} {
			if g, err := template.Expand(x.f, ts, env); err != x.want || len(g.Blocks) != 0 {
				t.Errorf("a file that is not valid: %v, want %v", err, x.want)
			}
		}
	}
	var many []api.Var
	for i := range api.MaxList + 1 {
		many = append(many, api.Var{Name: fmt.Sprint("v", i)})
	}
	for _, env := range [][]api.Var{bad, many, {{Name: "null"}}, {{Name: ""}}, {{Name: "x"}, {Name: "x"}}, {{Name: "x", Value: deep(17)}}} {
		want := eval.Env(env)
		for _, g := range []api.File{f, {}, file(t, "a {\n}\n"), file(t, use("t", "n = 1")), file(t, use("t", "n = y"))} {
			if g, err := template.Expand(g, ts, env); want == api.OK || err != want || len(g.Blocks) != 0 {
				t.Errorf("Expand in an environment that is not valid: %v, want %v", err, want)
			}
		}
	}
	if _, err := template.Expand(f, ts, many[:api.MaxList]); err != api.ErrNotFound {
		t.Errorf("Expand in a large environment: %v", err)
	}
}

// P15.4: results that are not valid.
func TestInvalidResults(t *testing.T) {
	blocks := func(n int) string { return declare("t", repeated("a {\n}\n", n)) }
	expectExpanded(t, blocks(1024)+use("t"), nil, repeated("a {\n}\n", 1024), api.OK)
	expectExpanded(t, blocks(1024)+use("t")+"b {\n}\n", nil, "", api.ErrTooLong)
	expectExpanded(t, blocks(513)+use("t")+use("t"), nil, "", api.ErrTooLong)
	expectExpanded(t, blocks(1024)+job(use("t"), use("t")), nil, "", api.ErrTooLong)
	expectExpanded(t, blocks(1024)+job(use("t"), use("t"))+use("none"), nil, "", api.ErrNotFound)

	attrs := func(letter string, n int) string {
		var s []string
		for i := range n {
			s = append(s, fmt.Sprint(letter, i, " = 1"))
		}
		return strings.Join(s, "\n")
	}
	if _, err := expand(t, declare("t", attrs("a", 1000))+job(attrs("b", 24), use("t")), nil); err != api.OK {
		t.Errorf("1024 attributes: %v", err)
	}
	expectExpanded(t, declare("t", attrs("a", 1000))+job(attrs("b", 25), use("t")), nil, "", api.ErrTooLong)

	tower := func(levels int, inner string) string {
		return repeated("a {\n", levels) + inner + repeated("}\n", levels)
	}
	high := declare("t", tower(15, ""))
	if _, err := expand(t, high+tower(1, use("t")), nil); err != api.OK {
		t.Errorf("16 levels: %v", err)
	}
	expectExpanded(t, high+tower(2, use("t")), nil, "", api.ErrDepth)
	expectExpanded(t, high+tower(2, use("t"))+use("none"), nil, "", api.ErrNotFound)
	expectExpanded(t, high+declare("o", tower(1, use("t")))+tower(1, use("o")), nil, "", api.ErrDepth)

	named := declare("t", param("n", "string"), "a \"${n}${n}\" {\n}")
	expectExpanded(t, named+job(use("t", "n = \""+repeated("n", 32)+"\"")), nil, "job {\n  a \""+repeated("n", 64)+"\" {\n  }\n}\n", api.OK)
	expectExpanded(t, named+job(use("t", "n = \""+repeated("n", 33)+"\"")), nil, "", api.ErrInvalid)
	expectExpanded(t, named+job(use("t", "n = \""+repeated("n", 2049)+"\"")), nil, "", api.ErrTooLong)
	expectExpanded(t, named+job(use("t", "n = \"\"")), nil, "job {\n  a {\n  }\n}\n", api.OK)
}

// P15.5: files without uses, whatever the templates and the environment are.
func TestUnchanged(t *testing.T) {
	f := file(t, "job \"${x}$$\" {\nx = [i, \"${i}$$$\", {a: n}]\nstep {\ny = i\nUse {\n}\n}\n}\n"+job("param {\n}\ntemplate {\n}\n"))
	want := config.Show(f)
	f.Blocks = append(f.Blocks, api.Block{Kind: "z", Attrs: []api.Attr{{Name: "x", Expr: lit(deep(16))}, {Name: "y", Expr: lit(str(repeated("${i}", 1024)))}}})
	all := config.Show(f)
	if want == "" || !strings.HasPrefix(all, want) {
		t.Fatal("the file is not valid")
	}
	ts, _, _ := template.Collect(file(t, declare("t", param("i", "int", "default = 2"), "x = i")+declare("job", "y = 1")))
	for _, templates := range [][]api.Template{nil, ts, {{}, {Name: "use"}, {Name: "job", Body: f.Blocks[0]}}} {
		for _, env := range [][]api.Var{nil, environment(t), {{Name: "x", Value: number(1)}, {Name: "n", Value: number(1)}}} {
			g, err := template.Expand(f, templates, env)
			if err != api.OK || config.Show(g) != all {
				t.Errorf("a file without uses is expanded to %.200s, %v", config.Show(g), err)
			}
		}
	}
}

// maker makes files with templates by chance, together with what they are expanded to.
type maker struct {
	chance *rand.Rand
	count  int               // attributes so far, whose names are all different
	bodies map[string]string // what each template stands for: its attributes, and its blocks
	nested map[string]string
	uses   map[string]int
	found  int
}

func (m *maker) number() int {
	m.count++
	return m.count
}

// body returns the source of the inside of a block and what it is expanded to, as attributes and blocks.
func (m *maker) body(levels int) (source, attrs, blocks string) {
	names := make([]string, 0, len(m.bodies))
	for name := range m.bodies {
		names = append(names, name)
	}
	slices.Sort(names)
	var late string
	used := map[string]bool{}
	for range m.chance.IntN(6) {
		switch n := m.number(); {
		case m.chance.IntN(3) == 0:
			line := fmt.Sprintf("x%d = %d\n", n, n)
			source, attrs = source+line, attrs+line
		case m.chance.IntN(2) == 0 && levels > 0:
			s, a, b := m.body(levels - 1)
			source += fmt.Sprintf("b%d {\n%s}\n", n, s)
			blocks += fmt.Sprintf("b%d {\n%s%s}\n", n, a, b)
		case len(names) > 0:
			name := names[m.chance.IntN(len(names))]
			if m.bodies[name] != "" && used[name] || m.found+m.uses[name] > 3000 {
				continue // its attributes would occur twice, unless it has none
			}
			used[name] = true
			m.found += m.uses[name]
			source += use(name)
			late += m.bodies[name]
			blocks += m.nested[name]
		}
	}
	return source, attrs + late, blocks
}

// P15.4, P15.5: files whose uses are nested by chance.
func TestNestedByChance(t *testing.T) {
	expanded, uses := 0, 0
	for seed := range uint64(400) {
		m := maker{chance: rand.New(rand.NewPCG(seed, 15)), bodies: map[string]string{}, nested: map[string]string{}, uses: map[string]int{}}
		source := ""
		for i := range m.chance.IntN(8) {
			name := fmt.Sprint("t", i)
			m.found = 1
			s, attrs, blocks := m.body(2)
			source += declare(name, s)
			m.bodies[name], m.nested[name], m.uses[name] = attrs, blocks, m.found
		}
		m.found = 0
		s, attrs, blocks := m.body(2)
		want := "job {\n" + attrs + blocks + "}\n"
		source += "job {\n" + s + "}\n"
		got, err := expand(t, source, environment(t))
		if err == api.ErrExists { // two different templates that use the same one
			continue
		}
		if f, _, e := config.Parse(want); err != api.OK || e != api.OK || got != config.Show(f) {
			t.Fatalf("%s\nis expanded to\n%s%v, want\n%s%v", source, got, err, want, e)
		}
		if strings.Contains(got, "use ") {
			t.Fatalf("a use is left in %s", got)
		}
		expanded++
		uses += m.found
	}
	if expanded < 300 || uses < 1000 {
		t.Errorf("only %d files with %d uses", expanded, uses)
	}
}

// R1: templates that Collect does not return.
func TestOtherTemplates(t *testing.T) {
	tower := api.Block{Kind: "use", Name: "t"}
	for range 1<<16 - 20 {
		tower = api.Block{Kind: "a", Blocks: []api.Block{tower}}
	}
	e := name("n")
	for range 1 << 16 {
		e = api.Expr{Kind: api.EList, Args: []api.Expr{e}}
	}
	long := lit(str(repeated("${n}", 2000)))
	attr := func(e api.Expr) api.Block { return api.Block{Attrs: []api.Attr{{Name: "x", Expr: e}}} }
	n := []api.Param{{Name: "n", Type: typed(t, "any"), Has: true, Default: number(1)}}
	bad := []api.Param{{Name: "n", Type: api.Type{Kind: 99}, Has: true, Default: deep(1 << 16)}, {Name: "n"}, {Name: "a b"}}
	for _, x := range []api.Template{
		{}, {Name: "t"}, {Name: "t", Params: bad[:1]}, {Name: "t", Params: bad}, {Name: "t", Params: n, Body: api.Block{Blocks: []api.Block{tower}}},
		{Name: "t", Params: n, Body: attr(e)}, {Name: "t", Params: n, Body: attr(long)}, {Name: "t", Params: bad[:1], Body: attr(name("n"))}, {Name: "t", Params: bad[:1], Body: attr(lit(str("${n}")))},
		{Name: "t", Params: n, Body: api.Block{Kind: "use", Name: "t"}}, {Name: "t", Params: n, Body: api.Block{Blocks: []api.Block{{Name: "${", Kind: "a"}}}},
		{Name: "t", Params: n, Body: attr(api.Expr{Kind: api.ELit, Value: str("${n}"), Args: []api.Expr{name("n")}})},
	} {
		for _, source := range []string{job(use("t")), job(use("t", "n = 1")), use("t"), job()} {
			f := file(t, source)
			g, err := template.Expand(f, []api.Template{x, x}, nil)
			if err != api.OK && len(g.Blocks) != 0 || err == api.OK && config.Valid(g) != api.OK {
				t.Errorf("Expand of %s: %v, %v", source, g, err)
			}
		}
	}
	template.Params(tower)
	template.Params(api.Block{Blocks: []api.Block{{Kind: "param", Name: "n", Attrs: []api.Attr{{Name: "default", Expr: e}, {Name: "type", Expr: lit(str("any"))}}}}})
	template.Collect(api.File{Blocks: []api.Block{tower}})
	template.Bind(bad, []api.Var{{Name: "n", Value: deep(1 << 16)}})
}

// P15.4: the first template with a name is meant.
func TestFirstTemplate(t *testing.T) {
	ts, _, _ := template.Collect(file(t, declare("t", "x = 1")+declare("u", "x = 2")))
	ts[1].Name = "t"
	g, err := template.Expand(file(t, job(use("t"))), ts, nil)
	if err != api.OK || config.Show(g) != "job {\n  x = 1\n}\n" {
		t.Errorf("Expand = %s, %v", config.Show(g), err)
	}
}

// R5: the results of Expand, and its arguments.
func TestExpandMemory(t *testing.T) {
	source := declare("t", param("v", "any"), "y = [v, v, {a: [z]}]", "c {\nx = v\n}") + declare("u", param("v", "any"), "w {\nuse \"t\" {\nv = v\n}\n}", "x = [1]")
	jobs := job(use("t", "v = l"), "c {\nx = [1, {b: 2}]\n"+use("t", "v = [l, m]")+"}", use("u", "v = [[1]]")) + "b {\nx = [y]\n}\n"
	for _, args := range []string{"", "spare"} {
		ts, f, _ := template.Collect(file(t, source+jobs))
		env := environment(t)
		if args != "" {
			spare(f.Blocks)
			for i := range ts {
				spare([]api.Block{ts[i].Body})
			}
		}
		before := fmt.Sprint(deepCaps(reflect.ValueOf(f)), deepCaps(reflect.ValueOf(ts)), deepCaps(reflect.ValueOf(env)))
		g, err := template.Expand(f, ts, env)
		if err != api.OK {
			t.Fatal(err)
		}
		expectNew(t, []any{g}, []any{f, ts, env})
		if after := fmt.Sprint(deepCaps(reflect.ValueOf(f)), deepCaps(reflect.ValueOf(ts)), deepCaps(reflect.ValueOf(env))); after != before {
			t.Error("Expand changes its arguments")
		}
	}
}

// spare gives the lists of blocks spare capacity.
func spare(blocks []api.Block) {
	for i := range blocks {
		b := &blocks[i]
		b.Attrs = append(make([]api.Attr, 0, 99), b.Attrs...)
		b.Blocks = append(make([]api.Block, 0, 99), b.Blocks...)
		spare(b.Blocks)
	}
}

// deepCaps returns all that a value contains, with the spare capacity of its lists.
func deepCaps(v reflect.Value) []any {
	var all []any
	switch v.Kind() {
	case reflect.Struct:
		for i := range v.NumField() {
			all = append(all, deepCaps(v.Field(i))...)
		}
	case reflect.Slice:
		all = append(all, v.Len())
		whole := v.Slice(0, v.Cap())
		for i := range whole.Len() {
			all = append(all, deepCaps(whole.Index(i))...)
		}
	default:
		all = append(all, v.Interface())
	}
	return all
}

// R2: one use of a large environment and a large value does not cost the whole of them each time.
func TestLargeValues(t *testing.T) {
	var env []api.Var
	for i := range api.MaxList {
		env = append(env, api.Var{Name: fmt.Sprint("v", i), Value: list(slices.Repeat([]api.Value{str(repeated("s", 400))}, 100)...)})
	}
	ts, f, _ := template.Collect(file(t, declare("t", param("v", "any"), "a {\nx = v\n}")+job(repeated(use("t", "v = len(v1)"), 1024))))
	f.Blocks = slices.Repeat(f.Blocks, 4)
	g, err := template.Expand(f, ts, env)
	if got := config.Show(g); err != api.OK || got != repeated("job {\n"+repeated("  a {\n    x = 100\n  }\n", 1024)+"}\n", 4) {
		t.Errorf("Expand in a large environment: %v", err)
	}
	// Many of these values do not fit into a string, nor does one.
	all := "[" + repeated("v, ", 1000) + "v]"
	expectExpanded(t, declare("t", param("v", "any"), "x = \"${"+all+"}\"")+job(use("t", "v = [v1, v2, v3, v4]")), env, "", api.ErrTooLong)
}
