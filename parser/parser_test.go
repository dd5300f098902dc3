package parser_test

import (
	"math"
	"slices"
	"strconv"
	"strings"
	"testing"

	"pipeline/api"
	"pipeline/lexer"
	"pipeline/parser"
)

func lit(v api.Value) api.Expr { return api.Expr{Kind: api.ELit, Value: v} }

func truth(b bool) api.Expr { return lit(api.Value{Kind: api.VBool, Bool: b}) }

func number(n int) api.Expr { return lit(api.Value{Kind: api.VInt, Int: n}) }

func str(s string) api.Expr { return lit(api.Value{Kind: api.VString, Str: s}) }

func name(s string) api.Expr { return api.Expr{Kind: api.EName, Name: s} }

func member(e api.Expr, s string) api.Expr {
	return api.Expr{Kind: api.EMember, Name: s, Args: []api.Expr{e}}
}

func index(args ...api.Expr) api.Expr { return api.Expr{Kind: api.EIndex, Args: args} }

func call(s string, args ...api.Expr) api.Expr {
	return api.Expr{Kind: api.ECall, Name: s, Args: args}
}

func unary(op string, args ...api.Expr) api.Expr {
	return api.Expr{Kind: api.EUnary, Name: op, Args: args}
}

func binary(op string, args ...api.Expr) api.Expr {
	return api.Expr{Kind: api.EBinary, Name: op, Args: args}
}

func cond(args ...api.Expr) api.Expr { return api.Expr{Kind: api.ECond, Args: args} }

func list(args ...api.Expr) api.Expr { return api.Expr{Kind: api.EList, Args: args} }

func dict(keys []string, args ...api.Expr) api.Expr {
	return api.Expr{Kind: api.EMap, Keys: keys, Args: args}
}

func keys(s ...string) []string { return s }

// numbered returns so many different keys.
func numbered(count int) []string {
	names := make([]string, count)
	for i := range names {
		names[i] = "k" + strconv.Itoa(i)
	}
	return names
}

func repeated(e api.Expr, count int) []api.Expr {
	args := make([]api.Expr, count)
	for i := range args {
		args[i] = e
	}
	return args
}

// nested returns e in so many lists.
func nested(e api.Expr, lists int) api.Expr {
	for range lists {
		e = list(e)
	}
	return e
}

var (
	null     = lit(api.Value{})
	a, b, c  = name("a"), name("b"), name("c")
	longName = strings.Repeat("n", api.MaxName)
	tooLong  = strings.Repeat("s", api.MaxString+1)
)

// sameValue reports whether two values are equal in all fields, where nil and empty lists are the same.
func sameValue(a, b api.Value) bool {
	return a.Kind == b.Kind && a.Bool == b.Bool && a.Int == b.Int && a.Str == b.Str &&
		slices.Equal(a.Keys, b.Keys) && slices.EqualFunc(a.List, b.List, sameValue)
}

// same reports whether two expressions are equal in all fields, where nil and empty lists are the same.
func same(a, b api.Expr) bool {
	return a.Kind == b.Kind && a.Name == b.Name && sameValue(a.Value, b.Value) &&
		slices.Equal(a.Keys, b.Keys) && slices.EqualFunc(a.Args, b.Args, same)
}

// parsed are expressions with sources that Show does not return, if source is not empty.
var parsed = []struct {
	source, shown string
	e             api.Expr
}{
	// Atoms.
	{"", "1", number(1)},
	{"", "0", number(0)},
	{"", "9007199254740992", number(api.MaxNumber)},
	{"", `"a\n\x00"`, str("a\n\x00")},
	{`"\x41"`, `"A"`, str("A")},
	{"", `""`, str("")},
	{"", "null", null},
	{"", "true", truth(true)},
	{"", "false", truth(false)},
	{"", "a", a},
	{"", "True", name("True")},
	{"", "_", name("_")},
	{"", "Az_9", name("Az_9")},
	{"", longName, name(longName)},
	{" \ta # (", "a", a},
	{"(a)", "a", a},
	{"(((a)))", "a", a},
	{"(\na\n\n)", "a", a},
	{"", "a()", call("a")},
	{"a (\n)", "a()", call("a")},
	{"a(b)", "a(b)", call("a", b)},
	{"a(b,null,c)", "a(b, null, c)", call("a", b, null, c)},
	{"a(b?c:a,(b))", "a(b ? c : a, b)", call("a", cond(b, c, a), b)},
	{"", "[]", list()},
	{"", "[a]", list(a)},
	{"[a,[b],c]", "[a, [b], c]", list(a, list(b), c)},
	{"", "{}", dict(nil)},
	{"{a:b}", `{"a": b}`, dict(keys("a"), b)},
	{`{b: 1, "a": c, true: 2, null: {}}`, `{"b": 1, "a": c, "true": 2, "null": {}}`, dict(keys("b", "a", "true", "null"), number(1), c, number(2), dict(nil))},
	{"", `{"a b\n": a ? b : c}`, dict(keys("a b\n"), cond(a, b, c))},
	{`{"` + longName + `": a}`, `{"` + longName + `": a}`, dict(keys(longName), a)},

	// Chains.
	{"a . b", "a.b", member(a, "b")},
	{"", "a.b.c", member(member(a, "b"), "c")},
	{"", "a[b]", index(a, b)},
	{"", "a[b][c]", index(index(a, b), c)},
	{"a[(b)]", "a[b]", index(a, b)},
	{"", "a[b ? c : a]", index(a, cond(b, c, a))},
	{"", "a[b[c]]", index(a, index(b, c))},
	{"", "a(b).c[1]", index(member(call("a", b), "c"), number(1))},
	{"", "1.a", member(number(1), "a")},
	{"", `"a".b`, member(str("a"), "b")},
	{"", "true.a", member(truth(true), "a")},
	{"", "null[0]", index(null, number(0))},
	{"", "[a][0]", index(list(a), number(0))},
	{"", `{"a": b}.a`, member(dict(keys("a"), b), "a")},
	{"", "(a + b).c", member(binary("+", a, b), "c")},
	{"", "(a ? b : c)[0]", index(cond(a, b, c), number(0))},
	{"", "(-a).b", member(unary("-", a), "b")},
	{"", "(!a)[b]", index(unary("!", a), b)},
	{"(a.b).c", "a.b.c", member(member(a, "b"), "c")},

	// Operators with one operand.
	{"- a", "-a", unary("-", a)},
	{"", "!a", unary("!", a)},
	{"", "!!--a", unary("!", unary("!", unary("-", unary("-", a))))},
	{"", "-1", unary("-", number(1))},
	{"-a.b", "-a.b", unary("-", member(a, "b"))},
	{"!(a.b[c])", "!a.b[c]", unary("!", index(member(a, "b"), c))},
	{"", "-(a + b)", unary("-", binary("+", a, b))},
	{"", "!(a ? b : c)", unary("!", cond(a, b, c))},
	{"-(-a)", "--a", unary("-", unary("-", a))},
	{"(-a) * b", "-a * b", binary("*", unary("-", a), b)},
	{"a*(-b)", "a * -b", binary("*", a, unary("-", b))},
	{"a - -b", "a - -b", binary("-", a, unary("-", b))},
	{"a--b", "a - -b", binary("-", a, unary("-", b))},
	{"!a==b", "!a == b", binary("==", unary("!", a), b)},
	{"-(a*b)", "-(a * b)", unary("-", binary("*", a, b))},

	// Operators with two operands.
	{"1+2*3", "1 + 2 * 3", binary("+", number(1), binary("*", number(2), number(3)))},
	{"1*2+3", "1 * 2 + 3", binary("+", binary("*", number(1), number(2)), number(3))},
	{"", "(1 + 2) * 3", binary("*", binary("+", number(1), number(2)), number(3))},
	{"", "1 - 2 - 3", binary("-", binary("-", number(1), number(2)), number(3))},
	{"(1 - 2) - 3", "1 - 2 - 3", binary("-", binary("-", number(1), number(2)), number(3))},
	{"", "1 - (2 - 3)", binary("-", number(1), binary("-", number(2), number(3)))},
	{"", "a + b - c + a", binary("+", binary("-", binary("+", a, b), c), a)},
	{"", "a * b / c % a", binary("%", binary("/", binary("*", a, b), c), a)},
	{"", "a / (b * c)", binary("/", a, binary("*", b, c))},
	{"", "a || b || c", binary("||", binary("||", a, b), c)},
	{"", "a || (b || c)", binary("||", a, binary("||", b, c))},
	{"", "a && b && c", binary("&&", binary("&&", a, b), c)},
	{"", "a || b && c", binary("||", a, binary("&&", b, c))},
	{"", "a && b || c", binary("||", binary("&&", a, b), c)},
	{"", "a && (b || c)", binary("&&", a, binary("||", b, c))},
	{"", "(a || b) && c", binary("&&", binary("||", a, b), c)},
	{"", "a && b == c", binary("&&", a, binary("==", b, c))},
	{"", "a == b && c", binary("&&", binary("==", a, b), c)},
	{"", "a == (b && c)", binary("==", a, binary("&&", b, c))},
	{"", "a == b + c", binary("==", a, binary("+", b, c))},
	{"", "a - b != c", binary("!=", binary("-", a, b), c)},
	{"", "(a < b) == (c > a)", binary("==", binary("<", a, b), binary(">", c, a))},
	{"", "(a <= b) < c", binary("<", binary("<=", a, b), c)},
	{"", "a >= (b >= c)", binary(">=", a, binary(">=", b, c))},
	{"", "(a == b) + c", binary("+", binary("==", a, b), c)},
	{"", "a < b && b < c", binary("&&", binary("<", a, b), binary("<", b, c))},
	{"", "a < b || b < c && c < a", binary("||", binary("<", a, b), binary("&&", binary("<", b, c), binary("<", c, a)))},
	{"", "a + b * c < -a % b && !c || a", binary("||", binary("&&", binary("<", binary("+", a, binary("*", b, c)), binary("%", unary("-", a), b)), unary("!", c)), a)},

	// Conditions.
	{"", "a ? b : c", cond(a, b, c)},
	{"", "a ? b : c ? a : b", cond(a, b, cond(c, a, b))},
	{"a ? b : (c ? a : b)", "a ? b : c ? a : b", cond(a, b, cond(c, a, b))},
	{"", "(a ? b : c) ? a : b", cond(cond(a, b, c), a, b)},
	{"", "a ? b ? c : a : b", cond(a, cond(b, c, a), b)},
	{"", "a || b ? c && a : b == c", cond(binary("||", a, b), binary("&&", c, a), binary("==", b, c))},
	{"", "a || (b ? c : a)", binary("||", a, cond(b, c, a))},
	{"", "(a ? b : c) + a", binary("+", cond(a, b, c), a)},
	{"", "-a ? -b : -c", cond(unary("-", a), unary("-", b), unary("-", c))},
}

// P10.3, P10.4, P10.6
func TestParse(t *testing.T) {
	for _, x := range parsed {
		src := x.source
		if src == "" {
			src = x.shown
		}
		e, at, err := parser.Parse(src)
		if err != api.OK || at != 0 || !same(e, x.e) {
			t.Errorf("Parse(%s) = %+v, %d, %v", src, e, at, err)
		}
		if got := parser.Show(x.e); got != x.shown {
			t.Errorf("Show of %s = %s, want %s", src, got, x.shown)
		}
		if e, _, err := parser.Parse(x.shown); err != api.OK || !same(e, x.e) {
			t.Errorf("Parse(%s) = %+v, %v", x.shown, e, err)
		}
		if e, at, err := parser.Parse("(" + src + "\n)"); !strings.Contains(src, "#") && (err != api.OK || at != 0 || !same(e, x.e)) {
			t.Errorf("Parse((%s)) = %+v, %d, %v", src, e, at, err)
		}
	}
}

// P10.3
func TestParseErrors(t *testing.T) {
	for _, x := range []struct {
		src  string
		at   int
		want api.Errno
	}{
		// Those of Tokens.
		{strings.Repeat(" ", api.MaxSource+1), 0, api.ErrTooLong},
		{"a + 007", 4, api.ErrSyntax},
		{"+ 007", 2, api.ErrSyntax},
		{"a + |", 4, api.ErrSyntax},
		{`+ "a`, 2, api.ErrTruncated},
		{"a 9007199254740993", 2, api.ErrRange},
		{") n" + longName, 2, api.ErrTooLong},

		// The tokens end.
		{"", 0, api.ErrTruncated},
		{"  # a", 5, api.ErrTruncated},
		{"a +  ", 5, api.ErrTruncated},
		{"a && # b", 8, api.ErrTruncated},
		{"-", 1, api.ErrTruncated},
		{"!", 1, api.ErrTruncated},
		{"(", 1, api.ErrTruncated},
		{"(a", 2, api.ErrTruncated},
		{"[", 1, api.ErrTruncated},
		{"[a", 2, api.ErrTruncated},
		{"[a,", 3, api.ErrTruncated},
		{"{", 1, api.ErrTruncated},
		{"{a", 2, api.ErrTruncated},
		{"{a:", 3, api.ErrTruncated},
		{"{a: b", 5, api.ErrTruncated},
		{"{a: b,", 6, api.ErrTruncated},
		{"a(", 2, api.ErrTruncated},
		{"a(b", 3, api.ErrTruncated},
		{"a(b,", 4, api.ErrTruncated},
		{"a.", 2, api.ErrTruncated},
		{"a[", 2, api.ErrTruncated},
		{"a[b", 3, api.ErrTruncated},
		{"a ?", 3, api.ErrTruncated},
		{"a ? b", 5, api.ErrTruncated},
		{"a ? b :", 7, api.ErrTruncated},
		{"a ? b : c ?", 11, api.ErrTruncated},

		// A token with which the grammar cannot continue where it needs one.
		{"+ a", 0, api.ErrSyntax},
		{"\n", 0, api.ErrSyntax},
		{"\na", 0, api.ErrSyntax},
		{"a +\nb", 3, api.ErrSyntax},
		{"a + * b", 4, api.ErrSyntax},
		{"a && || b", 5, api.ErrSyntax},
		{"a + = b", 4, api.ErrSyntax},
		{")", 0, api.ErrSyntax},
		{"()", 1, api.ErrSyntax},
		{"(a]", 2, api.ErrSyntax},
		{"(a, b)", 2, api.ErrSyntax},
		{"(a < b < c)", 7, api.ErrSyntax},
		{"[a b]", 3, api.ErrSyntax},
		{"[,]", 1, api.ErrSyntax},
		{"[a,]", 3, api.ErrSyntax},
		{"[a,,b]", 3, api.ErrSyntax},
		{"[a)", 2, api.ErrSyntax},
		{"[a: b]", 2, api.ErrSyntax},
		{"{\n}", 1, api.ErrSyntax},
		{"{a: b\n}", 5, api.ErrSyntax},
		{"{a: b,}", 6, api.ErrSyntax},
		{"{,}", 1, api.ErrSyntax},
		{"{a}", 2, api.ErrSyntax},
		{"{a = b}", 3, api.ErrSyntax},
		{"{1: b}", 1, api.ErrSyntax},
		{"{(a): b}", 1, api.ErrSyntax},
		{"{a: b; c}", 5, api.ErrSyntax},
		{"a(b c)", 4, api.ErrSyntax},
		{"a(,)", 2, api.ErrSyntax},
		{"a(b,)", 4, api.ErrSyntax},
		{"a.1", 2, api.ErrSyntax},
		{`a."b"`, 2, api.ErrSyntax},
		{"a.true", 2, api.ErrSyntax},
		{"a.false", 2, api.ErrSyntax},
		{"a.null", 2, api.ErrSyntax},
		{"a..b", 2, api.ErrSyntax},
		{"a.(b)", 2, api.ErrSyntax},
		{"a[]", 2, api.ErrSyntax},
		{"a[b, c]", 3, api.ErrSyntax},
		{"a ? : c", 4, api.ErrSyntax},
		{"a ? b , c", 6, api.ErrSyntax},
		{"a ? b ? c : a", 13, api.ErrTruncated},
		{"a ? b ? c : a)", 13, api.ErrSyntax},

		// A token that is not read.
		{"a b", 2, api.ErrSyntax},
		{"a\n", 1, api.ErrSyntax},
		{"a)", 1, api.ErrSyntax},
		{"a, b", 1, api.ErrSyntax},
		{"a : b", 2, api.ErrSyntax},
		{"a = b", 2, api.ErrSyntax},
		{"a !b", 2, api.ErrSyntax},
		{"a < b < c", 6, api.ErrSyntax},
		{"a < b == c", 6, api.ErrSyntax},
		{"a && b == c != a", 12, api.ErrSyntax},
		{"a + b < c * a >= b", 14, api.ErrSyntax},
		{"a.b(c)", 3, api.ErrSyntax},
		{"a[b](c)", 4, api.ErrSyntax},
		{"(a)(b)", 3, api.ErrSyntax},
		{"true(a)", 4, api.ErrSyntax},
		{"null(a)", 4, api.ErrSyntax},
		{"1(a)", 1, api.ErrSyntax},
		{"a(b)(c)", 4, api.ErrSyntax},
		{"a {}", 2, api.ErrSyntax},
		{"1 2", 2, api.ErrSyntax},
		{"a ? b : c : a", 10, api.ErrSyntax},
		{"[a] b c", 4, api.ErrSyntax},

		// Those of Valid, which come after all of Take.
		{"{a: 1, \"a\": 2}", 0, api.ErrExists},
		{" \t(a + {a: 1, b: 2, a: 3})", 2, api.ErrExists},
		{" {\"\": 1}", 1, api.ErrInvalid},
		{" {\"n" + longName + "\": 1}", 1, api.ErrInvalid},
		{" " + strings.Repeat("-", 15) + "a", 0, api.OK},
		{" " + strings.Repeat("-", 16) + "a", 1, api.ErrDepth},
		{"\t" + strings.Repeat("-", 5000) + "a", 1, api.ErrLimit},
		{" 1" + strings.Repeat(" + 1", 16), 1, api.ErrDepth},
		{"[a" + strings.Repeat(", a", api.MaxList-1) + "]", 0, api.OK},
		{" [a" + strings.Repeat(", a", api.MaxList) + "]", 1, api.ErrTooLong},
		{" f(a" + strings.Repeat(", a", api.MaxList) + ")", 1, api.ErrTooLong},
		{" [{a: 1, a: 2}", 14, api.ErrTruncated},
		{" {a: 1, a: 2} + )", 16, api.ErrSyntax},
		{" {a: 1, a: 2} b", 1, api.ErrExists},
		{" " + strings.Repeat("-", 16) + "a b", 1, api.ErrDepth},
	} {
		e, at, err := parser.Parse(x.src)
		if err != x.want || at != x.at || err != api.OK && !same(e, api.Expr{}) {
			t.Errorf("Parse(%.40q) = %+v, %d, %v, want %d, %v", x.src, e, at, err, x.at, x.want)
		}
	}
}

func token(kind int, text string) api.Token { return api.Token{Kind: kind, Text: text, At: -7} }

func tokens(t *testing.T, src string) []api.Token {
	ts, _, err := lexer.Tokens(src)
	if err != api.OK {
		t.Fatalf("Tokens(%q): %v", src, err)
	}
	return ts
}

// P10.2
func TestTake(t *testing.T) {
	for _, x := range []struct {
		src   string
		shown string
		n     int
		want  api.Errno
	}{
		{"a", "a", 1, api.OK},
		{"a + b }", "a + b", 3, api.OK},
		{"a\nb", "a", 1, api.OK},
		{"a b", "a", 1, api.OK},
		{"a = b", "a", 1, api.OK},
		{"(a) (b)", "a", 3, api.OK},
		{"a : b", "a", 1, api.OK},
		{"a < b < c", "a < b", 3, api.OK},
		{"a == b + c == a", "a == b + c", 5, api.OK},
		{"a && b < c < a && b", "a && b < c", 5, api.OK},
		{"a.b(c)", "a.b", 3, api.OK},
		{"null(a)", "null", 1, api.OK},
		{"a ? b : c : a", "a ? b : c", 5, api.OK},
		{"{} {}", "{}", 2, api.OK},
		{"1 1", "1", 1, api.OK},
		{"a !b", "a", 1, api.OK},

		// What could continue the expression is always read.
		{"a +", "", 2, api.ErrTruncated},
		{"a.", "", 2, api.ErrTruncated},
		{"a[", "", 2, api.ErrTruncated},
		{"a(", "", 2, api.ErrTruncated},
		{"a ? b", "", 3, api.ErrTruncated},
		{"a + }", "", 2, api.ErrSyntax},
		{"a . 1", "", 2, api.ErrSyntax},
		{"a [ ]", "", 2, api.ErrSyntax},
		{"a ( }", "", 2, api.ErrSyntax},
		{"a ? b )", "", 3, api.ErrSyntax},
		{"a < b < c ) ?", "a < b", 3, api.OK},

		{"", "", 0, api.ErrTruncated},
		{"}", "", 0, api.ErrSyntax},
		{"a + {b: 1, b: 2} c", "", 0, api.ErrExists},
		{"{\"\": 1}", "", 0, api.ErrInvalid},
	} {
		ts := tokens(t, x.src)
		e, n, err := parser.Take(ts)
		if err != x.want || n != x.n || parser.Show(e) != x.shown || err != api.OK && !same(e, api.Expr{}) {
			t.Errorf("Take(%s) = %+v, %d, %v, want %s, %d, %v", x.src, e, n, err, x.shown, x.n, x.want)
		}
	}
}

// P10.2: tokens that Tokens cannot return are not read, wherever they stand.
func TestTakeOfOtherTokens(t *testing.T) {
	first, plus, open := token(api.TokName, "a"), token(api.TokOp, "+"), token(api.TokOp, "(")
	for _, other := range []api.Token{
		{}, token(0, "a"), token(-1, "a"), token(6, "+"), token(math.MaxInt, "1"),
		token(api.TokName, ""), token(api.TokName, "1a"), token(api.TokName, "a b"), token(api.TokName, " a"), token(api.TokName, "a "), token(api.TokName, "a#"), token(api.TokName, "a\n"), token(api.TokName, "a-b"), token(api.TokName, "é"), token(api.TokName, "n"+longName), token(api.TokName, "1"), token(api.TokName, "+"), token(api.TokName, "\"a\""),
		token(api.TokInt, ""), token(api.TokInt, "007"), token(api.TokInt, "-1"), token(api.TokInt, "+1"), token(api.TokInt, "1 "), token(api.TokInt, "1a"), token(api.TokInt, "a"), token(api.TokInt, "9007199254740993"), token(api.TokInt, "99999999999999999999"), token(api.TokInt, "1 2"),
		token(api.TokString, tooLong), token(api.TokString, strings.Repeat(tooLong, 20)),
		token(api.TokOp, ""), token(api.TokOp, "|"), token(api.TokOp, "+ "), token(api.TokOp, "+-"), token(api.TokOp, "==="), token(api.TokOp, "a"), token(api.TokOp, "1"), token(api.TokOp, ";"), token(api.TokOp, "()"), token(api.TokOp, " ("), token(api.TokOp, "\n"),
		token(api.TokNewline, "\n"), token(api.TokNewline, "+"), token(api.TokNewline, "a"), token(api.TokNewline, ""),
	} {
		if e, n, err := parser.Take([]api.Token{other}); err != api.ErrSyntax || n != 0 || !same(e, api.Expr{}) {
			t.Errorf("Take(%.40v) = %+v, %d, %v", other, e, n, err)
		}
		if e, n, err := parser.Take([]api.Token{first, other}); err != api.OK || n != 1 || !same(e, a) {
			t.Errorf("Take(a, %.40v) = %+v, %d, %v", other, e, n, err)
		}
		if e, n, err := parser.Take([]api.Token{first, plus, other}); err != api.ErrSyntax || n != 2 || !same(e, api.Expr{}) {
			t.Errorf("Take(a, +, %.40v) = %+v, %d, %v", other, e, n, err)
		}
		if e, n, err := parser.Take([]api.Token{open, first, other}); err != api.ErrSyntax || n != 2 || !same(e, api.Expr{}) {
			t.Errorf("Take((, a, %.40v) = %+v, %d, %v", other, e, n, err)
		}
		if e, n, err := parser.Take([]api.Token{first, token(api.TokOp, "."), other}); err != api.ErrSyntax || n != 2 || !same(e, api.Expr{}) {
			t.Errorf("Take(a, ., %.40v) = %+v, %d, %v", other, e, n, err)
		}
		if e, n, err := parser.Take([]api.Token{token(api.TokOp, "{"), other, token(api.TokOp, ":")}); err != api.ErrSyntax || n != 1 || !same(e, api.Expr{}) {
			t.Errorf("Take({, %.40v, :) = %+v, %d, %v", other, e, n, err)
		}
	}
	longest := strings.Repeat("\xff", api.MaxString)
	for _, x := range []struct {
		token api.Token
		e     api.Expr
	}{
		{token(api.TokString, longest), str(longest)},
		{token(api.TokString, ""), str("")},
		{token(api.TokString, "a\n\"+"), str("a\n\"+")},
		{token(api.TokName, longName), name(longName)},
		{token(api.TokInt, "9007199254740992"), number(api.MaxNumber)},
	} {
		if e, n, err := parser.Take([]api.Token{x.token}); err != api.OK || n != 1 || !same(e, x.e) {
			t.Errorf("Take(%.40v) = %.80v, %d, %v", x.token, e, n, err)
		}
	}
}
