package config_test

import (
	"math"
	"slices"
	"strconv"
	"strings"
	"testing"

	"pipeline/api"
	"pipeline/config"
	"pipeline/parser"
)

func repeated(s string, count int) string { return strings.Repeat(s, count) }

func number(n int) api.Expr {
	return api.Expr{Kind: api.ELit, Value: api.Value{Kind: api.VInt, Int: n}}
}

func name(s string) api.Expr { return api.Expr{Kind: api.EName, Name: s} }

func list(args ...api.Expr) api.Expr { return api.Expr{Kind: api.EList, Args: args} }

func attr(s string, e api.Expr) api.Attr { return api.Attr{Name: s, Expr: e} }

func file(blocks ...api.Block) api.File { return api.File{Blocks: blocks} }

// numbered returns so many attributes with different names.
func numbered(count int) []api.Attr {
	attrs := make([]api.Attr, count)
	for i := range attrs {
		attrs[i] = attr("x"+strconv.Itoa(i), number(i))
	}
	return attrs
}

// deep returns blocks at so many levels, the innermost of which is b.
func deep(b api.Block, levels int) api.Block {
	for range levels - 1 {
		b = api.Block{Kind: "g", Blocks: []api.Block{b}}
	}
	return b
}

var (
	longName = repeated("n", api.MaxName)
	bad      = api.Block{Kind: "true"}
	plain    = api.Block{Kind: "a"}
	tooGreat = number(math.MaxInt)
)

func sameAttr(a, b api.Attr) bool { return a.Name == b.Name && parser.Equal(a.Expr, b.Expr) }

func sameBlock(a, b api.Block) bool {
	return a.Kind == b.Kind && a.Name == b.Name && slices.EqualFunc(a.Attrs, b.Attrs, sameAttr) && slices.EqualFunc(a.Blocks, b.Blocks, sameBlock)
}

func same(a, b api.File) bool { return slices.EqualFunc(a.Blocks, b.Blocks, sameBlock) }

var valid = []struct {
	name   string
	f      api.File
	source string
}{
	{"nothing", file(), ""},
	{"a block", file(plain), "a {\n}\n"},
	{"the same block twice", file(plain, plain), "a {\n}\na {\n}\n"},
	{"a name", file(api.Block{Kind: "a", Name: "b"}), "a \"b\" {\n}\n"},
	{"any bytes as a name", file(api.Block{Kind: "Z_9", Name: "\"\\ \n\t\x00\xff{"}), "Z_9 \"\\\"\\\\ \\n\\t\\x00\\xff{\" {\n}\n"},
	{"long names", file(api.Block{Kind: longName, Name: longName, Attrs: []api.Attr{attr(longName, name(longName))}}), longName + " \"" + longName + "\" {\n  " + longName + " = " + longName + "\n}\n"},
	{"attributes in order", file(api.Block{Kind: "a", Attrs: []api.Attr{attr("y", number(2)), attr("x", number(1)), attr("a", name("x"))}}), "a {\n  y = 2\n  x = 1\n  a = x\n}\n"},
	{"attributes before blocks", file(api.Block{Kind: "a", Blocks: []api.Block{{Kind: "x", Attrs: []api.Attr{attr("x", number(1))}}, plain, plain}, Attrs: []api.Attr{attr("x", number(2))}}), "a {\n  x = 2\n  x {\n    x = 1\n  }\n  a {\n  }\n  a {\n  }\n}\n"},
	{"a number below 0", file(api.Block{Kind: "a", Attrs: []api.Attr{attr("x", api.Expr{Kind: api.EUnary, Name: "-", Args: []api.Expr{number(-1)}})}}), "a {\n  x = --1\n}\n"},
	{"an expression of all kinds", file(api.Block{Kind: "a", Attrs: []api.Attr{attr("x", api.Expr{Kind: api.ECond, Args: []api.Expr{name("c"), list(number(1), name("b")), api.Expr{Kind: api.EMap, Keys: []string{"a b"}, Args: []api.Expr{number(2)}}}})}}), "a {\n  x = c ? [1, b] : {\"a b\": 2}\n}\n"},
	{"blocks at all levels", file(deep(plain, 3), deep(api.Block{Kind: "a", Attrs: []api.Attr{attr("x", number(1))}}, 3)), "g {\n  g {\n    a {\n    }\n  }\n}\ng {\n  g {\n    a {\n      x = 1\n    }\n  }\n}\n"},
}

// greatest are valid files at their limits.
var greatest = []struct {
	name string
	f    api.File
}{
	{"blocks of a file", file(slices.Repeat([]api.Block{plain}, api.MaxList)...)},
	{"blocks of a block", file(api.Block{Kind: "a", Blocks: slices.Repeat([]api.Block{plain}, api.MaxList)})},
	{"blocks of two blocks", file(slices.Repeat([]api.Block{{Kind: "a", Blocks: slices.Repeat([]api.Block{plain}, api.MaxList)}}, 2)...)},
	{"attributes", file(api.Block{Kind: "a", Attrs: numbered(api.MaxList)})},
	{"attributes of two blocks", file(api.Block{Kind: "a", Attrs: numbered(api.MaxList), Blocks: []api.Block{{Kind: "a", Attrs: numbered(api.MaxList)}}})},
	{"levels", file(deep(api.Block{Kind: "a", Attrs: numbered(2)}, api.MaxDepth), deep(plain, api.MaxDepth))},
	{"name", file(api.Block{Kind: "a", Name: repeated("\xff", api.MaxName)})},
}

var invalid = []struct {
	name string
	f    api.File
	want api.Errno
}{
	{"blocks of a file", file(slices.Repeat([]api.Block{plain}, api.MaxList+1)...), api.ErrTooLong},
	{"many blocks before all others", file(append(slices.Repeat([]api.Block{bad}, api.MaxList), deep(plain, 17))...), api.ErrTooLong},

	{"levels", file(deep(plain, api.MaxDepth+1)), api.ErrDepth},
	{"the levels that are promised", file(deep(plain, 1<<16)), api.ErrDepth},
	{"no kind", file(api.Block{}), api.ErrInvalid},
	{"name, but no kind", file(api.Block{Name: "a"}), api.ErrInvalid},
	{"kind true", file(bad), api.ErrInvalid},
	{"kind false", file(api.Block{Kind: "false"}), api.ErrInvalid},
	{"kind null", file(api.Block{Kind: "null"}), api.ErrInvalid},
	{"kind with a digit", file(api.Block{Kind: "1a"}), api.ErrInvalid},
	{"kind with a hyphen", file(api.Block{Kind: "a-b"}), api.ErrInvalid},
	{"kind with a blank", file(api.Block{Kind: "a "}), api.ErrInvalid},
	{"long kind", file(api.Block{Kind: longName + "n"}), api.ErrInvalid},
	{"long name", file(api.Block{Kind: "a", Name: longName + "n"}), api.ErrInvalid},
	{"many attributes", file(api.Block{Kind: "a", Attrs: numbered(api.MaxList + 1)}), api.ErrTooLong},
	{"many nested blocks", file(api.Block{Kind: "a", Blocks: slices.Repeat([]api.Block{plain}, api.MaxList+1)}), api.ErrTooLong},
	{"attribute without a name", file(api.Block{Kind: "a", Attrs: []api.Attr{attr("", number(1))}}), api.ErrInvalid},
	{"attribute null", file(api.Block{Kind: "a", Attrs: []api.Attr{attr("null", number(1))}}), api.ErrInvalid},
	{"long attribute", file(api.Block{Kind: "a", Attrs: []api.Attr{attr(longName+"n", number(1))}}), api.ErrInvalid},
	{"attribute with a period", file(api.Block{Kind: "a", Attrs: []api.Attr{attr("a.b", number(1))}}), api.ErrInvalid},
	{"no expression", file(api.Block{Kind: "a", Attrs: []api.Attr{attr("x", api.Expr{})}}), api.ErrInvalid},
	{"number", file(api.Block{Kind: "a", Attrs: []api.Attr{attr("x", tooGreat)}}), api.ErrRange},
	{"expression with many nodes", file(api.Block{Kind: "a", Attrs: []api.Attr{attr("x", list(slices.Repeat([]api.Expr{number(1)}, api.MaxNodes)...))}}), api.ErrLimit},
	{"expression with many args", file(api.Block{Kind: "a", Attrs: []api.Attr{attr("x", list(slices.Repeat([]api.Expr{number(1)}, api.MaxList+1)...))}}), api.ErrTooLong},
	{"attribute twice", file(api.Block{Kind: "a", Attrs: []api.Attr{attr("x", number(1)), attr("x", number(1))}}), api.ErrExists},
	{"attribute twice, not in a row", file(api.Block{Kind: "a", Attrs: []api.Attr{attr("x", number(1)), attr("y", number(1)), attr("x", number(2))}}), api.ErrExists},
	{"in a nested block", file(plain, deep(api.Block{Kind: "a", Attrs: []api.Attr{attr("x", tooGreat)}}, 16)), api.ErrRange},

	// Which error comes first of one block.
	{"depth before kind", file(deep(bad, 17)), api.ErrDepth},
	{"depth before number", file(deep(api.Block{Kind: "a", Attrs: []api.Attr{attr("x", tooGreat)}}, 17)), api.ErrDepth},
	{"kind before length", file(api.Block{Kind: "true", Attrs: numbered(api.MaxList + 1)}), api.ErrInvalid},
	{"name before length", file(api.Block{Kind: "a", Name: longName + "n", Blocks: slices.Repeat([]api.Block{bad}, api.MaxList+1)}), api.ErrInvalid},
	{"length before attributes", file(api.Block{Kind: "a", Attrs: append(numbered(api.MaxList), attr("", tooGreat))}), api.ErrTooLong},
	{"length before number", file(api.Block{Kind: "a", Attrs: []api.Attr{attr("x", tooGreat)}, Blocks: slices.Repeat([]api.Block{bad}, api.MaxList+1)}), api.ErrTooLong},
	{"attributes before nested blocks", file(api.Block{Kind: "a", Attrs: []api.Attr{attr("x", tooGreat)}, Blocks: []api.Block{bad}}), api.ErrRange},
	{"block before nested blocks", file(api.Block{Kind: "a", Attrs: []api.Attr{attr("x", number(1)), attr("x", number(1))}, Blocks: []api.Block{bad}}), api.ErrExists},
	{"name of an attribute before its expression", file(api.Block{Kind: "a", Attrs: []api.Attr{attr("true", tooGreat)}}), api.ErrInvalid},
	{"expression before attribute twice", file(api.Block{Kind: "a", Attrs: []api.Attr{attr("x", number(1)), attr("x", tooGreat)}}), api.ErrRange},

	// Which one comes first.
	{"attributes from left to right: range", file(api.Block{Kind: "a", Attrs: []api.Attr{attr("x", number(1)), attr("y", tooGreat), attr("null", number(1)), attr("x", number(1))}}), api.ErrRange},
	{"attributes from left to right: name", file(api.Block{Kind: "a", Attrs: []api.Attr{attr("x", number(1)), attr("null", number(1)), attr("y", tooGreat), attr("x", number(1))}}), api.ErrInvalid},
	{"attributes from left to right: twice", file(api.Block{Kind: "a", Attrs: []api.Attr{attr("x", number(1)), attr("x", number(1)), attr("y", tooGreat), attr("null", number(1))}}), api.ErrExists},
	{"nested blocks before the next one", file(deep(api.Block{Kind: "a", Attrs: []api.Attr{attr("x", tooGreat)}}, 3), bad), api.ErrRange},
	{"nested levels before the next one", file(deep(plain, 17), bad), api.ErrDepth},
	{"the next block", file(api.Block{Kind: "a", Blocks: []api.Block{deep(plain, 3), bad, {Kind: "a", Attrs: []api.Attr{attr("x", tooGreat)}}}}), api.ErrInvalid},
	{"nested blocks of a block before the next one", file(api.Block{Kind: "a", Blocks: []api.Block{deep(api.Block{Kind: "a", Attrs: []api.Attr{attr("x", tooGreat)}}, 3), bad}}), api.ErrRange},
}

// P14.1
func TestValid(t *testing.T) {
	for _, x := range valid {
		if err := config.Valid(x.f); err != api.OK {
			t.Errorf("Valid(%s) = %v", x.name, err)
		}
	}
	for _, x := range greatest {
		if err := config.Valid(x.f); err != api.OK {
			t.Errorf("Valid(%s) = %v", x.name, err)
		}
	}
	for _, x := range invalid {
		if err := config.Valid(x.f); err != x.want {
			t.Errorf("Valid(%s) = %v, want %v", x.name, err, x.want)
		}
	}
}

// P14.3, P14.5
func TestShow(t *testing.T) {
	for _, x := range valid {
		if s := config.Show(x.f); s != x.source {
			t.Errorf("Show(%s) = %q, want %q", x.name, s, x.source)
		}
	}
	for _, x := range invalid {
		if s := config.Show(x.f); s != "" {
			t.Errorf("Show(%s) = %.60q", x.name, s)
		}
	}
	for _, x := range greatest {
		f, at, err := config.Parse(config.Show(x.f))
		if err != api.OK || at != 0 || !same(f, x.f) {
			t.Errorf("Parse of the source of %s: %d, %v", x.name, at, err)
		}
	}
	var want strings.Builder
	for level := range api.MaxDepth - 1 {
		want.WriteString(repeated("  ", level) + "g {\n")
	}
	want.WriteString(repeated("  ", 15) + "a \"b\" {\n" + repeated("  ", 16) + "x0 = 0\n" + repeated("  ", 15) + "}\n")
	for level := range api.MaxDepth - 1 {
		want.WriteString(repeated("  ", 14-level) + "}\n")
	}
	f := file(deep(api.Block{Kind: "a", Name: "b", Attrs: numbered(1)}, api.MaxDepth))
	if s := config.Show(f); s != want.String() {
		t.Errorf("Show of %d levels = %s, want %s", api.MaxDepth, s, want.String())
	}
}

func searched() api.Block {
	dict := api.Expr{Kind: api.EMap, Keys: []string{"a"}, Args: []api.Expr{list(number(1))}}
	lit := api.Expr{Kind: api.ELit, Value: api.Value{Kind: api.VMap, Keys: []string{"k"}, List: []api.Value{{Kind: api.VList, List: []api.Value{{}}}}}}
	nested := func(s string) api.Block {
		return api.Block{Kind: "step", Name: s, Attrs: []api.Attr{attr("x", dict), attr("n", name(s))}, Blocks: []api.Block{{Kind: "step", Name: "inner"}}}
	}
	return api.Block{
		Kind:   "job",
		Attrs:  []api.Attr{attr("x", dict), attr("y", lit), attr("x", number(2)), attr("true", number(3)), attr("", number(4))},
		Blocks: []api.Block{nested("b"), {Kind: "Step"}, nested("a"), {Kind: "", Name: "c"}, nested("b")},
	}
}

// P14.4: also of a block that is not valid.
func TestAttr(t *testing.T) {
	b := searched()
	for s, want := range map[string]api.Expr{"x": b.Attrs[0].Expr, "y": b.Attrs[1].Expr, "true": number(3), "": number(4)} {
		if e, ok := config.Attr(b, s); !ok || !parser.Equal(e, want) {
			t.Errorf("Attr(%q) = %v, %v, want %v", s, e, ok, want)
		}
	}
	for _, s := range []string{"X", "n", "step", "job", "xx", " x"} {
		if e, ok := config.Attr(b, s); ok || !parser.Equal(e, api.Expr{}) {
			t.Errorf("Attr(%q) = %v, %v", s, e, ok)
		}
	}
	if e, ok := config.Attr(api.Block{}, ""); ok || !parser.Equal(e, api.Expr{}) {
		t.Errorf("Attr of an empty block = %v, %v", e, ok)
	}
}

// P14.4: in order, and not those that are nested in nested blocks.
func TestBlocks(t *testing.T) {
	b := searched()
	for kind, want := range map[string][]api.Block{
		"step": {b.Blocks[0], b.Blocks[2], b.Blocks[4]}, "Step": {b.Blocks[1]}, "": {b.Blocks[3]}, "job": nil, "ste": nil, "steps": nil,
	} {
		if got := config.Blocks(b, kind); !slices.EqualFunc(got, want, sameBlock) {
			t.Errorf("Blocks(%q) = %v, want %v", kind, got, want)
		}
	}
	if got := config.Blocks(api.Block{}, ""); len(got) != 0 {
		t.Errorf("Blocks of an empty block = %v", got)
	}
}

// R5: what is found shares no memory with the block, nor among itself.
func TestFoundIsNew(t *testing.T) {
	b := searched()
	x, _ := config.Attr(b, "x")
	clear(x.Keys)
	clear(x.Args[0].Args)
	clear(x.Args)
	y, _ := config.Attr(b, "y")
	clear(y.Value.List[0].List)
	clear(y.Value.Keys)
	clear(y.Value.List)
	blocks := config.Blocks(b, "step")
	clear(blocks[0].Attrs[0].Expr.Args[0].Args)
	clear(blocks[0].Attrs[0].Expr.Keys)
	clear(blocks[0].Attrs)
	clear(blocks[0].Blocks)
	if !sameBlock(b, searched()) || !sameBlock(blocks[1], searched().Blocks[2]) || !sameBlock(blocks[2], searched().Blocks[4]) {
		t.Error("results share memory")
	}
}
