package config_test

import (
	"math/rand/v2"
	"slices"
	"strconv"
	"strings"
	"testing"

	"pipeline/api"
	"pipeline/config"
	"pipeline/lexer"
	"pipeline/parser"
)

// sources are sources that Show does not return, with the canonical ones.
var sources = []struct{ source, want string }{
	{"\n", ""},
	{"# nothing", ""},
	{" \t\n\n # a\n\t", ""},
	{"a{\n}", "a {\n}\n"},
	{"a {\n} ", "a {\n}\n"},
	{"a {\n} # b", "a {\n}\n"},
	{"\n# a\n\na {\n\n\n}\n\n", "a {\n}\n"},
	{"a{\n}\nb{\n}", "a {\n}\nb {\n}\n"},
	{"a {\n}\n\n# c\nb {\n}\n", "a {\n}\nb {\n}\n"},
	{"a\"b\"{\n}", "a \"b\" {\n}\n"},
	{"a \"\\x41\\n\" {\n}", "a \"A\\n\" {\n}\n"},
	{"a { # b\n# c\nx=1 # d\n# e\n} # f", "a {\n  x = 1\n}\n"},
	{"a {\nx\t=\t[1,\n2,\n\n3]\n}", "a {\n  x = [1, 2, 3]\n}\n"},
	{"a {\nx = (1 # a\n+ 2)\n}", "a {\n  x = 1 + 2\n}\n"},
	{"a {\nx = {b:1,\"c d\":{}}\n}", "a {\n  x = {\"b\": 1, \"c d\": {}}\n}\n"},
	{"a {\nx = y ? 1:{} \n}", "a {\n  x = y ? 1 : {}\n}\n"},
	{"a {\nx = null\nb = a\na = \"\"\n}", "a {\n  x = null\n  b = a\n  a = \"\"\n}\n"},
	{"a {\nb {\n}\nx = 1\nb \"c\" {\n}\ny = x == 1\n}", "a {\n  x = 1\n  y = x == 1\n  b {\n  }\n  b \"c\" {\n  }\n}\n"},
	{"a {\nb {\nc {\n}\n}\n}\n", "a {\n  b {\n    c {\n    }\n  }\n}\n"},
	{"x {\nx = x\nx {\nx = x\n}\n}", "x {\n  x = x\n  x {\n    x = x\n  }\n}\n"},
	{"True {\nNull = 1\n}", "True {\n  Null = 1\n}\n"},
	{"# needs\njob \"a\" {\nneeds = [\"b\"]\n}", "job \"a\" {\n  needs = [\"b\"]\n}\n"},
}

// P14.2, P14.3, P14.5
func TestParse(t *testing.T) {
	expect := func(source, want string) {
		t.Helper()
		f, at, err := config.Parse(source)
		if err != api.OK || at != 0 || config.Valid(f) != api.OK || config.Show(f) != want {
			t.Errorf("Parse(%q) = %v, %d, %v, want %q", source, f, at, err, want)
		}
	}
	for _, x := range sources {
		expect(x.source, x.want)
		expect(x.want, x.want)
	}
	for _, x := range valid {
		if f, at, err := config.Parse(x.source); at != 0 || err != api.OK || !same(f, x.f) && !strings.Contains(x.source, "--1") {
			t.Errorf("Parse(%q) = %v, %d, %v", x.source, f, at, err)
		}
	}
	expect(repeated(" ", api.MaxSource-5)+"a {\n}", "a {\n}\n")
	expect("a {\n}"+repeated("\n", api.MaxSource-5), "a {\n}\n")
}

// P14.2
func TestParseErrors(t *testing.T) {
	many := repeated("a {\n}\n", api.MaxList+1)
	for _, x := range []struct {
		source string
		at     int
		want   api.Errno
	}{
		// Tokens.
		{repeated(" ", api.MaxSource+1), 0, api.ErrTooLong},
		{"} " + repeated("\n", api.MaxSource), 0, api.ErrTooLong},
		{"a {\nx = 007\n}", 8, api.ErrSyntax},
		{"a {\nx = 9007199254740993\n}", 8, api.ErrRange},
		{"a \"b", 2, api.ErrTruncated},
		{"a {\n} |", 6, api.ErrSyntax},
		{"a } |", 4, api.ErrSyntax}, // the tokens come first
		{"a " + longName + "n {", 2, api.ErrTooLong},

		// The grammar of files.
		{"{", 0, api.ErrSyntax},
		{"}", 0, api.ErrSyntax},
		{"\n }", 2, api.ErrSyntax},
		{"1", 0, api.ErrSyntax},
		{"\"a\" {\n}", 0, api.ErrSyntax},
		{"a {\n}\n1", 6, api.ErrSyntax},
		{"a {\n}\n}", 6, api.ErrSyntax},
		{"a {\n} b {\n}", 6, api.ErrSyntax},
		{"a {\n}}", 5, api.ErrSyntax},
		{"a {\n}\nb", 7, api.ErrTruncated},
		{"x = 1", 2, api.ErrSyntax},

		// The grammar of blocks.
		{"a", 1, api.ErrTruncated},
		{"a ", 2, api.ErrTruncated},
		{"a # b {", 7, api.ErrTruncated},
		{"a\n", 1, api.ErrSyntax},
		{"a\n{\n}", 1, api.ErrSyntax},
		{"a b {\n}", 2, api.ErrSyntax},
		{"a 1 {\n}", 2, api.ErrSyntax},
		{"a \"\" {\n}", 2, api.ErrSyntax},
		{"a \"b\"", 5, api.ErrTruncated},
		{"a \"b\" \"c\" {\n}", 6, api.ErrSyntax},
		{"a \"b\"\n{\n}", 5, api.ErrSyntax},
		{"a \"b\" = 1", 6, api.ErrSyntax},
		{"true {\n}", 0, api.ErrSyntax},
		{"false \"a\" {\n}", 0, api.ErrSyntax},
		{"null", 0, api.ErrSyntax},
		{"a {", 3, api.ErrTruncated},
		{"a {}", 3, api.ErrSyntax},
		{"a { }", 4, api.ErrSyntax},
		{"a { x = 1\n}", 4, api.ErrSyntax},
		{"a {\n", 4, api.ErrTruncated},
		{"a {\n# b", 7, api.ErrTruncated},
		{"a {\nb {\n}", 9, api.ErrTruncated},
		{"a {\nb {\n}\n", 10, api.ErrTruncated},
		{"a {\nb {\n} }", 10, api.ErrSyntax},
		{"a {\nb {\n}}", 9, api.ErrSyntax},
		{"a {\nb {\n} x = 1\n}", 10, api.ErrSyntax},

		// The grammar of items.
		{"a {\n1 = 1\n}", 4, api.ErrSyntax},
		{"a {\n\"x\" = 1\n}", 4, api.ErrSyntax},
		{"a {\n= 1\n}", 4, api.ErrSyntax},
		{"a {\n{\n}\n}", 4, api.ErrSyntax},
		{"a {\ntrue = 1\n}", 4, api.ErrSyntax},
		{"a {\nnull {\n}\n}", 4, api.ErrSyntax},
		{"a {\ny\n}", 5, api.ErrSyntax},
		{"a {\ny", 5, api.ErrTruncated},
		{"a {\ny }", 6, api.ErrSyntax},
		{"a {\nx == 1\n}", 6, api.ErrSyntax},
		{"a {\nx.y = 1\n}", 5, api.ErrSyntax},
		{"a {\nx \"y\" = 1\n}", 10, api.ErrSyntax},
		{"a {\nx = 1 }", 10, api.ErrSyntax},
		{"a {\nx = 1", 9, api.ErrTruncated},
		{"a {\nx = 1 # b", 13, api.ErrTruncated},
		{"a {\nx = 1\n", 10, api.ErrTruncated},
		{"a {\nx = 1 2\n}", 10, api.ErrSyntax},
		{"a {\nx = 1, y = 2\n}", 9, api.ErrSyntax},
		{"a {\nx = 1 = 2\n}", 10, api.ErrSyntax},
		{"a {\nx = y z = 1\n}", 10, api.ErrSyntax},
		{"a {\nx = 1) \n}", 9, api.ErrSyntax},

		// Expressions: the errors of Take.
		{"a {\nx =", 7, api.ErrTruncated},
		{"a {\nx = ", 8, api.ErrTruncated},
		{"a {\nx = # b", 11, api.ErrTruncated},
		{"a {\nx = \n}", 8, api.ErrSyntax},
		{"a {\nx = = 1\n}", 8, api.ErrSyntax},
		{"a {\nx = }", 8, api.ErrSyntax},
		{"a {\nx = y +\n1\n}", 11, api.ErrSyntax},
		{"a {\nx = 1 < 2 < 3\n}", 14, api.ErrSyntax},
		{"a {\nx = y ? 1\n}", 13, api.ErrSyntax},
		{"a {\nx = {b: 1,\nc: 2}\n}", 14, api.ErrSyntax},
		{"a {\nx = (1\n}", 11, api.ErrSyntax},
		{"a {\nx = [1,\n", 12, api.ErrTruncated},
		{"a {\nx = f(", 10, api.ErrTruncated},
		{"a {\nx = y.true\n}", 10, api.ErrSyntax},
		{"a {\ny = 1\nx = {b: 1, \"b\": 2}\n}", 14, api.ErrExists},
		{"a {\nx = {\"\": 1}\n}", 8, api.ErrInvalid},
		{"a {\nx = " + repeated("-", 16) + "1\n}", 8, api.ErrDepth},
		{"a {\nx = [" + repeated("1,", api.MaxList) + "1]\n}", 8, api.ErrTooLong},
		{"a {\nx = [" + repeated("[1,1,1],", api.MaxList) + "1]\n}", 8, api.ErrLimit},

		// From left to right, and Valid, with 0, after the grammar.
		{"a {\nx = {b: 1, b: 2}\ny = 1 2\n}", 8, api.ErrExists},
		{"a {\nx = 1 2\ny = {b: 1, b: 2}\n}", 10, api.ErrSyntax},
		{"a {\nx = {b: 1, b: 2}", 8, api.ErrExists},
		{"a {\nx = 1\nx = 2\n}", 0, api.ErrExists},
		{"a {\nx = 1\nx = 2\n} b", 18, api.ErrSyntax},
		{"a {\nx = 1\nx = 2\n", 16, api.ErrTruncated},
		{"a {\nx = 1\nb {\nx = 2\ny = 1\ny = 1\n}\n}", 0, api.ErrExists},
		{"a \"n" + longName + "\" {\n}", 0, api.ErrInvalid},
		{"a \"n" + longName + "\" {\n", 72, api.ErrTruncated},
		{repeated("g {\n", 16) + repeated("}\n", 16), 0, api.OK},
		{repeated("g {\n", 17) + repeated("}\n", 17), 0, api.ErrDepth},
		{repeated("g {\n", 17) + repeated("}\n", 16), 100, api.ErrTruncated},
		{repeated("g {\n", 10900) + repeated("}\n", 10900), 0, api.ErrDepth},
		{repeated("g {\n", api.MaxSource/4), api.MaxSource, api.ErrTruncated},
		{many[:len(many)-6], 0, api.OK},
		{many, 0, api.ErrTooLong},
		{"a {\n" + many + "}", 0, api.ErrTooLong},
		{many + "}", len(many), api.ErrSyntax},
	} {
		f, at, err := config.Parse(x.source)
		if at != x.at || err != x.want || err != api.OK && len(f.Blocks) != 0 {
			t.Errorf("Parse(%.40q) = %v, %d, %v, want %d, %v", x.source, f, at, err, x.at, x.want)
		}
	}
}

// rules are the grammar over signs for tokens: n is a plain name, w a word, s a string that is not empty, 1 a number, ; a line end. Capital letters are what is derived from them; for expressions the rules are only as far as these tokens need them.
var rules = map[byte][]string{
	'F': {"R", ";R"},               // file
	'R': {"", "B", "B;R"},          // the rest of a file
	'B': {"n{;I", "ns{;I"},         // block
	'I': {"}", "n=E;I", "B;I"},     // items
	'E': {"n", "w", "s", "1", "M"}, // expression
	'M': {"{}", "{n:", "{w:", "{s:"},
}

// step returns which stacks of signs may follow when a token was read with one of the stacks.
func step(stacks map[string]bool, token byte) map[string]bool {
	after := map[string]bool{}
	var derive func(stack string)
	derive = func(stack string) {
		if stack == "" {
			return
		}
		if stack[0] == token {
			after[stack[1:]] = true
		}
		for _, rule := range rules[stack[0]] {
			derive(rule + stack[1:])
		}
	}
	for stack := range stacks {
		derive(stack)
	}
	return after
}

// complete reports whether all that is left can be nothing.
func complete(stacks map[string]bool) bool {
	for stack := range stacks {
		if strings.Trim(stack, "R") == "" || stack == "F" {
			return true
		}
	}
	return false
}

var signs = map[byte]api.Token{
	'n': {Kind: api.TokName, Text: "n"}, 'w': {Kind: api.TokName, Text: "true"}, 's': {Kind: api.TokString, Text: "s"}, '1': {Kind: api.TokInt, Text: "1"},
	'{': {Kind: api.TokOp, Text: "{"}, '}': {Kind: api.TokOp, Text: "}"}, '=': {Kind: api.TokOp, Text: "="}, ';': {Kind: api.TokNewline},
}

// expectGrammar compares what Parse says of tokens with what the grammar says, and then of all longer lists that the grammar permits to begin so.
func expectGrammar(t *testing.T, text string, tokens []api.Token, stacks map[string]bool, length int) int {
	source := lexer.Join(tokens)
	_, at, err := config.Parse(source)
	count := 1
	switch {
	case len(stacks) == 0:
		placed, _, _ := lexer.Tokens(source)
		if last := placed[len(placed)-1].At; at != last || err != api.ErrSyntax {
			t.Fatalf("Parse(%q) = %d, %v, but %s is not permitted at %d", source, at, err, text, last)
		}
		return count
	case complete(stacks):
		if err != api.OK && err != api.ErrExists || at != 0 {
			t.Fatalf("Parse(%q) = %d, %v, but %s is permitted", source, at, err, text)
		}
	case err != api.ErrTruncated || at != len(source):
		t.Fatalf("Parse(%q) = %d, %v, but %s is not complete", source, at, err, text)
	}
	if length == 0 {
		return count
	}
	for sign, token := range signs {
		if sign != ';' || !strings.HasSuffix(text, ";") { // such line ends are one token
			count += expectGrammar(t, text+string(sign), append(slices.Clip(tokens), token), step(stacks, sign), length-1)
		}
	}
	return count
}

// P14.2: all short lists of tokens as far as they are permitted, and each token that is not.
func TestGrammar(t *testing.T) {
	if count := expectGrammar(t, "", nil, map[string]bool{"F": true}, 16); count < 20000 {
		t.Errorf("only %d lists of tokens", count)
	}
}

// P14.2: a source that ends too early.
func TestTruncated(t *testing.T) {
	source := "a \"b\" {\n  x = c ? [1, b] : {\"a b\": -f(2)[0].d}\n  g {\n    h {\n      x = (1 + 2) * 3\n    }\n  }\n}\n"
	tokens, _, err := lexer.Tokens(source)
	if f, _, e := config.Parse(source); err != api.OK || e != api.OK || config.Show(f) != source {
		t.Fatalf("Parse(%q) = %v", source, e)
	}
	for i, last := range tokens {
		if i == 0 || i >= len(tokens)-1 {
			continue
		}
		begin := source[:last.At] + " # end"
		if _, at, err := config.Parse(begin); err != api.ErrTruncated || at != len(begin) {
			t.Errorf("Parse(%q) = %d, %v", begin, at, err)
		}
	}
}

// plainExpr returns a plain expression of at most so many levels.
func plainExpr(chance *rand.Rand, levels int) api.Expr {
	if levels == 1 || chance.IntN(3) == 0 {
		leaves := []api.Expr{name("a"), name("b9"), number(chance.IntN(1000)), {Kind: api.ELit}, {Kind: api.ELit, Value: api.Value{Kind: api.VBool, Bool: true}}, {Kind: api.ELit, Value: api.Value{Kind: api.VString, Str: anyBytes(chance)}}, list(), {Kind: api.EMap}}
		return leaves[chance.IntN(len(leaves))]
	}
	args := func(count int) []api.Expr {
		all := make([]api.Expr, count)
		for i := range all {
			all[i] = plainExpr(chance, levels-1)
		}
		return all
	}
	operators := []string{"||", "&&", "==", "<=", ">", "+", "-", "*", "/", "%"}
	switch chance.IntN(8) {
	case 0:
		return api.Expr{Kind: api.EMember, Name: "m", Args: args(1)}
	case 1:
		return api.Expr{Kind: api.EIndex, Args: args(2)}
	case 2:
		return api.Expr{Kind: api.ECall, Name: "f", Args: args(chance.IntN(3))}
	case 3:
		return api.Expr{Kind: api.EUnary, Name: []string{"!", "-"}[chance.IntN(2)], Args: args(1)}
	case 4:
		return api.Expr{Kind: api.ECond, Args: args(3)}
	case 5:
		return api.Expr{Kind: api.EMap, Keys: []string{"k", "\x00\"}\n"}, Args: args(2)}
	case 6:
		return list(args(chance.IntN(4))...)
	}
	return api.Expr{Kind: api.EBinary, Name: operators[chance.IntN(len(operators))], Args: args(2)}
}

func anyBytes(chance *rand.Rand) string {
	b := make([]byte, chance.IntN(8))
	for i := range b {
		b[i] = byte(chance.IntN(256))
	}
	return string(b)
}

// plainBlocks returns at most three blocks of at most so many levels.
func plainBlocks(chance *rand.Rand, levels int) []api.Block {
	var blocks []api.Block
	for range chance.IntN(4) {
		b := api.Block{Kind: "k" + strconv.Itoa(chance.IntN(3)), Name: anyBytes(chance)}
		for i := range chance.IntN(4) {
			b.Attrs = append(b.Attrs, attr("x"+strconv.Itoa(9-i), plainExpr(chance, 4)))
		}
		if levels > 1 {
			b.Blocks = plainBlocks(chance, levels-1)
		}
		blocks = append(blocks, b)
	}
	return blocks
}

// P14.5, P14.6: files that are found by chance.
func TestOneForm(t *testing.T) {
	chance := rand.New(rand.NewPCG(14, 5))
	expect := func(source string, want api.File) {
		t.Helper()
		if f, at, err := config.Parse(source); err != api.OK || at != 0 || !same(f, want) {
			t.Fatalf("Parse(%q) = %v, %d, %v, want %v", source, f, at, err, want)
		}
	}
	for range 400 {
		f, g := file(plainBlocks(chance, 4)...), file(plainBlocks(chance, 2)...)
		source, other := config.Show(f), config.Show(g)
		if (source == "") != (len(f.Blocks) == 0) || len(source)+len(other) > api.MaxSource-100 {
			t.Fatalf("Show(%v) = %q", f, source)
		}
		expect(source, f)
		expect(strings.TrimSuffix(source, "\n"), f)
		expect("\n\n# a {\n\t\n"+source, f)
		expect(source+"\n # }\n\n#", f)
		both := file(slices.Concat(f.Blocks, g.Blocks)...)
		expect(source+other, both)
		expect(source+"\n"+other, both)
		expect(strings.TrimSuffix(source, "\n")+"\n# and\n"+other, both)
	}
}

// isPlain reports whether the literals of a valid expression are what sources can contain.
func isPlain(e api.Expr) bool {
	v := e.Value
	return v.Kind <= api.VString && v.Int >= 0 && !slices.ContainsFunc(e.Args, func(arg api.Expr) bool { return !isPlain(arg) })
}

func arePlain(blocks []api.Block) bool {
	for _, b := range blocks {
		if slices.ContainsFunc(b.Attrs, func(a api.Attr) bool { return parser.Valid(a.Expr) != api.OK || !isPlain(a.Expr) }) || !arePlain(b.Blocks) {
			return false
		}
	}
	return true
}

// P14.5: what Parse returns for sources with bytes that chance has changed, and their canonical sources.
func TestParsedIsPlain(t *testing.T) {
	chance := rand.New(rand.NewPCG(14, 2))
	pool := "abx=1\"{}[]()-+?:., \n#\\"
	parsed := 0
	for range 4000 {
		source := []byte(config.Show(file(plainBlocks(chance, 3)...)))
		for range chance.IntN(3) {
			if len(source) > 0 {
				source[chance.IntN(len(source))] = pool[chance.IntN(len(pool))]
			}
		}
		f, at, err := config.Parse(string(source))
		if err != api.OK {
			if at < 0 || at > len(source) || len(f.Blocks) != 0 {
				t.Fatalf("Parse(%q) = %v, %d, %v", source, f, at, err)
			}
			continue
		}
		parsed++
		again, _, err := config.Parse(config.Show(f))
		if config.Valid(f) != api.OK || !arePlain(f.Blocks) || err != api.OK || !same(again, f) {
			t.Fatalf("Parse(%q) = %v, and for its source %v, %v", source, f, again, err)
		}
	}
	if parsed < 1000 {
		t.Errorf("only %d sources were parsed", parsed)
	}
}

// R5: blocks of a result share no memory.
func TestParsedIsNew(t *testing.T) {
	source := "a {\n  x = [{\"k\": [1]}]\n  b {\n  }\n}\n"
	f, _, _ := config.Parse(source + source)
	first := f.Blocks[0]
	clear(first.Attrs[0].Expr.Args[0].Args[0].Args)
	clear(first.Attrs[0].Expr.Args[0].Keys)
	clear(first.Attrs)
	clear(first.Blocks)
	if s := config.Show(file(f.Blocks[1])); s != source {
		t.Errorf("the second block is %q", s)
	}
}
