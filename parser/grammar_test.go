package parser_test

import (
	"math/rand/v2"
	"slices"
	"strconv"
	"strings"
	"testing"

	"pipeline/api"
	"pipeline/lexer"
	"pipeline/parser"
)

// grammar derives expressions from tokens by the rules of the chapter in all possible ways.
type grammar struct {
	ts      []api.Token
	cut     bool // somewhere a token was needed where the tokens end
	doubted bool // some tokens have two derivations
}

// ends are the expressions that begin at the same token, by the index after their last token.
type ends map[int]api.Expr

func (g *grammar) add(to ends, end int, e api.Expr) {
	if _, ok := to[end]; ok {
		g.doubted = true
	}
	to[end] = e
}

// token returns the token at an index, and the zero Token at the end.
func (g *grammar) token(at int) api.Token {
	if at == len(g.ts) {
		g.cut = true
		return api.Token{}
	}
	return g.ts[at]
}

func (g *grammar) op(at int, ops ...string) bool {
	t := g.token(at)
	return t.Kind == api.TokOp && slices.Contains(ops, t.Text)
}

func (g *grammar) plainName(at int) bool {
	t := g.token(at)
	return t.Kind == api.TokName && t.Text != "true" && t.Text != "false" && t.Text != "null"
}

// condition is an operation of strength 2, possibly followed by ?, a condition, : and a condition.
func (g *grammar) condition(at int) ends {
	all := ends{}
	for end1, first := range g.operation(2, at) {
		g.add(all, end1, first)
		if !g.op(end1, "?") {
			continue
		}
		for end2, second := range g.condition(end1 + 1) {
			if !g.op(end2, ":") {
				continue
			}
			for end3, third := range g.condition(end2 + 1) {
				g.add(all, end3, cond(first, second, third))
			}
		}
	}
	return all
}

var operatorsOf = map[int][]string{2: {"||"}, 3: {"&&"}, 4: {"==", "!=", "<", "<=", ">", ">="}, 5: {"+", "-"}, 6: {"*", "/", "%"}}

// operation is an operation of strength n + 1, followed by any number (at most one if n is 4) of operators with operations.
func (g *grammar) operation(n, at int) ends {
	if n == 7 {
		return g.unary(at)
	}
	all := g.operation(n+1, at)
	for more := all; len(more) > 0; {
		next := ends{}
		for end1, first := range more {
			if !g.op(end1, operatorsOf[n]...) {
				continue
			}
			for end2, second := range g.operation(n+1, end1+1) {
				g.add(next, end2, binary(g.ts[end1].Text, first, second))
			}
		}
		for end, e := range next {
			g.add(all, end, e)
		}
		if more = next; n == 4 {
			break
		}
	}
	return all
}

func (g *grammar) unary(at int) ends {
	if !g.op(at, "!", "-") {
		return g.chain(at)
	}
	all := ends{}
	for end, e := range g.unary(at + 1) {
		g.add(all, end, unary(g.ts[at].Text, e))
	}
	return all
}

func (g *grammar) chain(at int) ends {
	all := g.atom(at)
	for more := all; len(more) > 0; {
		next := ends{}
		for end1, e := range more {
			if g.op(end1, ".") && g.plainName(end1+1) {
				g.add(next, end1+2, member(e, g.ts[end1+1].Text))
			}
			if !g.op(end1, "[") {
				continue
			}
			for end2, second := range g.condition(end1 + 1) {
				if g.op(end2, "]") {
					g.add(next, end2+1, index(e, second))
				}
			}
		}
		for end, e := range next {
			g.add(all, end, e)
		}
		more = next
	}
	return all
}

func (g *grammar) atom(at int) ends {
	all := ends{}
	t := g.token(at)
	switch {
	case t.Kind == api.TokInt:
		n, _ := strconv.Atoi(t.Text)
		g.add(all, at+1, number(n))
	case t.Kind == api.TokString:
		g.add(all, at+1, str(t.Text))
	case t.Kind == api.TokName && t.Text == "null":
		g.add(all, at+1, null)
	case t.Kind == api.TokName && !g.plainName(at):
		g.add(all, at+1, truth(t.Text == "true"))
	case t.Kind == api.TokName:
		g.add(all, at+1, name(t.Text))
		if g.op(at+1, "(") {
			g.items(all, at+2, ")", false, call(t.Text))
		}
	case g.op(at, "("):
		for end, e := range g.condition(at + 1) {
			if g.op(end, ")") {
				g.add(all, end+1, e)
			}
		}
	case g.op(at, "["):
		g.items(all, at+1, "]", false, list())
	case g.op(at, "{"):
		g.items(all, at+1, "}", true, dict(nil))
	}
	return all
}

// items adds e with each list of conditions, or of entries, and the bracket that closes it.
func (g *grammar) items(all ends, at int, closing string, entries bool, e api.Expr) {
	if g.op(at, closing) {
		g.add(all, at+1, e)
	}
	if len(e.Args) > 0 {
		if !g.op(at, ",") {
			return
		}
		at++
	}
	if entries {
		key := g.token(at)
		if key.Kind != api.TokName && key.Kind != api.TokString || !g.op(at+1, ":") {
			return
		}
		e.Keys = append(slices.Clone(e.Keys), key.Text)
		at += 2
	}
	for end, item := range g.condition(at) {
		next := e
		next.Args = append(slices.Clone(e.Args), item)
		g.items(all, end, closing, entries, next)
	}
}

// derived returns what Take must return: tokens are read as long as some expression begins with them.
func derived(t *testing.T, ts []api.Token) (api.Expr, int, api.Errno) {
	n := 0
	var e api.Expr
	complete := false
	for end := 1; end <= len(ts); end++ {
		g := grammar{ts: ts[:end]}
		all := g.condition(0)
		whole, ok := all[end]
		if g.doubted {
			t.Fatalf("%s has two derivations", lexer.Join(ts[:end]))
		}
		if !ok && !g.cut {
			break
		}
		n, e, complete = end, whole, ok
	}
	switch {
	case complete:
		if err := parser.Valid(e); err != api.OK {
			return api.Expr{}, 0, err
		}
		return e, n, api.OK
	case n == len(ts):
		return api.Expr{}, n, api.ErrTruncated
	}
	return api.Expr{}, n, api.ErrSyntax
}

func compareTake(t *testing.T, ts []api.Token) {
	e, n, err := parser.Take(ts)
	wantE, wantN, want := derived(t, ts)
	if err != want || n != wantN || !same(e, wantE) {
		t.Fatalf("Take(%s) = %s, %d, %v, want %s, %d, %v", lexer.Join(ts), parser.Show(e), n, err, parser.Show(wantE), wantN, want)
	}
}

// words are the tokens that the tests put together.
func words() []api.Token {
	list := []api.Token{token(api.TokName, "a"), token(api.TokName, "true"), token(api.TokName, "null"), token(api.TokInt, "1"), token(api.TokString, "s"), token(api.TokNewline, "")}
	for _, op := range []string{"||", "&&", "<", "==", "+", "*", "-", "!", "?", ":", ".", ",", "=", "(", ")", "[", "]", "{", "}"} {
		list = append(list, token(api.TokOp, op))
	}
	return list
}

// P10.2: all lists of three tokens are read as the grammar derives them.
func TestTakeOfFewTokens(t *testing.T) {
	compareTake(t, nil)
	list := words()
	for _, x := range list {
		compareTake(t, []api.Token{x})
		for _, y := range list {
			compareTake(t, []api.Token{x, y})
			for _, z := range list {
				compareTake(t, []api.Token{x, y, z})
			}
		}
	}
}

// generator returns random plain expressions.
type generator struct{ *rand.Rand }

func random(seed uint64) generator { return generator{rand.New(rand.NewPCG(10, seed))} }

func (g generator) name() string { return []string{"a", "b", "len", "_", "Z9"}[g.IntN(5)] }

func (g generator) literal() api.Expr {
	switch g.IntN(5) {
	case 0:
		return null
	case 1:
		return truth(g.IntN(2) == 0)
	case 2:
		return number(g.IntN(3) * (api.MaxNumber / 2))
	case 3:
		return str([]string{"", "a", "\"\\", "\n\xff", "}"}[g.IntN(5)])
	}
	return number(g.IntN(12))
}

func (g generator) args(count, levels int) []api.Expr {
	args := make([]api.Expr, count)
	for i := range args {
		args[i] = g.expr(levels - 1)
	}
	return args
}

// expr returns an expression of at most so many levels.
func (g generator) expr(levels int) api.Expr {
	if levels == 1 || g.IntN(6) == 0 {
		if g.IntN(2) == 0 {
			return name(g.name())
		}
		return g.literal()
	}
	switch g.IntN(10) {
	case 0:
		return member(g.expr(levels-1), g.name())
	case 1:
		return index(g.args(2, levels)...)
	case 2:
		return call(g.name(), g.args(g.IntN(3), levels)...)
	case 3:
		return unary([]string{"!", "-"}[g.IntN(2)], g.expr(levels-1))
	case 4:
		return cond(g.args(3, levels)...)
	case 5:
		return list(g.args(g.IntN(4), levels)...)
	case 6:
		args := g.args(g.IntN(3), levels)
		return dict(keys("b", "a\n")[:len(args)], args...)
	}
	ops := operatorsOf[2+g.IntN(5)]
	return binary(ops[g.IntN(len(ops))], g.args(2, levels)...)
}

// P10.2: sources with an error or none are read as the grammar derives them.
func TestTakeOfChangedTokens(t *testing.T) {
	g := random(1)
	list := words()
	for range 20000 {
		ts := tokens(t, parser.Show(g.expr(4)))
		if len(ts) > 14 {
			ts = ts[:14]
		}
		for range g.IntN(3) {
			at := g.IntN(len(ts) + 1)
			end := min(at+g.IntN(2), len(ts))
			ts = slices.Replace(slices.Clone(ts), at, end, list[g.IntN(len(list))])
		}
		compareTake(t, ts)
	}
}

// plain reports whether a valid expression is plain.
func plain(e api.Expr) bool {
	v := e.Value
	return v.Kind != api.VList && v.Kind != api.VMap && v.Int >= 0 && !slices.ContainsFunc(e.Args, func(arg api.Expr) bool { return !plain(arg) })
}

// P10.6: Parse returns a plain expression for its source, and expressions with one source are equal.
func TestOneForm(t *testing.T) {
	g := random(2)
	found := map[string]api.Expr{}
	for range 30000 {
		e := g.expr(1 + g.IntN(6))
		source := parser.Show(e)
		parsed, at, err := parser.Parse(source)
		if err != api.OK || at != 0 || !same(parsed, e) || !parser.Equal(parsed, e) {
			t.Fatalf("Parse(%s) = %+v, %d, %v, want %+v", source, parsed, at, err, e)
		}
		if inner, at, err := parser.Parse(" ( (" + source + ") # )\n)"); err != api.OK || at != 0 || !same(inner, e) {
			t.Fatalf("Parse(((%s))) = %+v, %d, %v", source, inner, at, err)
		}
		if other, ok := found[source]; ok && !parser.Equal(other, e) {
			t.Fatalf("%+v and %+v have the source %s", e, other, source)
		}
		found[source] = e
	}
}

// P10.6: what Parse returns is plain, also for sources that Show does not return.
func TestParseReturnsPlainExpressions(t *testing.T) {
	g := random(3)
	list := words()
	for range 30000 {
		ts := tokens(t, parser.Show(g.expr(4)))
		at := g.IntN(len(ts))
		ts[at] = list[g.IntN(len(list))]
		e, _, err := parser.Parse(lexer.Join(ts))
		if err != api.OK {
			continue
		}
		if parser.Valid(e) != api.OK || !plain(e) {
			t.Fatalf("Parse(%s) = %+v", lexer.Join(ts), e)
		}
		if again, _, err := parser.Parse(parser.Show(e)); err != api.OK || !same(again, e) {
			t.Fatalf("Parse(%s) = %+v, want %+v", parser.Show(e), again, e)
		}
	}
}

// P10.4: a source has no parentheses that it does not need.
func TestShowHasFewParentheses(t *testing.T) {
	g := random(4)
	for range 10000 {
		e := g.expr(5)
		ts := tokens(t, parser.Show(e))
		var open []int
		for at, x := range ts {
			switch {
			case x.Kind == api.TokOp && x.Text == "(":
				open = append(open, at)
			case x.Kind == api.TokOp && x.Text == ")":
				first := open[len(open)-1]
				open = open[:len(open)-1]
				if first > 0 && ts[first-1].Kind == api.TokName { // of a call
					continue
				}
				less := slices.Concat(ts[:first], ts[first+1:at], ts[at+1:])
				if other, _, err := parser.Parse(lexer.Join(less)); err == api.OK && same(other, e) {
					t.Fatalf("Show = %s, which needs no parentheses as in %s", parser.Show(e), lexer.Join(less))
				}
			}
		}
	}
}

// P10.6: the source of a plain expression may be too long.
func TestLongSource(t *testing.T) {
	text := str(strings.Repeat("\xff", api.MaxString))
	for _, x := range []struct {
		e    api.Expr
		want api.Errno
	}{
		{list(repeated(text, 3)...), api.OK},
		{list(repeated(text, 4)...), api.ErrTooLong},
		{list(append(repeated(text, 3), str(tooLong[1:]), number(1))...), api.OK},
	} {
		e, at, err := parser.Parse(parser.Show(x.e))
		if err != x.want || at != 0 || err == api.OK && !same(e, x.e) {
			t.Errorf("Parse of %d bytes: %d, %v", len(parser.Show(x.e)), at, err)
		}
	}
}

// R1: nesting as deep as is promised.
func TestDeepSources(t *testing.T) {
	for _, opening := range []string{"(", "[", "{a:", "f(", "a[", "-", "a?", "a?b:", "!(", "a+(", "-[f("} {
		src := strings.Repeat(opening, api.MaxSource/len(opening))
		if e, at, err := parser.Parse(src); err != api.ErrTruncated || at != len(src) || !same(e, api.Expr{}) {
			t.Errorf("Parse(%s..) = %d, %v", opening, at, err)
		}
	}
	half := (api.MaxSource - 1) / 2
	if e, at, err := parser.Parse(strings.Repeat("(", half) + "a" + strings.Repeat(")", half)); err != api.OK || at != 0 || !same(e, a) {
		t.Errorf("Parse of a in parentheses: %d, %v", at, err)
	}
	if _, at, err := parser.Parse(strings.Repeat("[", half) + "a" + strings.Repeat("]", half)); err != api.ErrLimit || at != 0 {
		t.Errorf("Parse of a in lists: %d, %v", at, err)
	}
	for _, src := range []string{strings.Repeat("1+", half) + "1", "a" + strings.Repeat(".b", half)} {
		if _, at, err := parser.Parse(src); err != api.ErrLimit || at != 0 {
			t.Errorf("Parse(%.10s..) = %d, %v", src, at, err)
		}
	}
}

// overwrite changes all lists of an expression, with their spare capacity.
func overwrite(e api.Expr) {
	for _, arg := range e.Args {
		overwrite(arg)
	}
	for i := range e.Args[:cap(e.Args)] {
		e.Args[:cap(e.Args)][i] = str("overwritten")
	}
	for i := range e.Keys[:cap(e.Keys)] {
		e.Keys[:cap(e.Keys)][i] = "overwritten"
	}
}

// R5: no function changes its arguments, and results share no memory.
func TestMemory(t *testing.T) {
	const source = `{"a": f([a], {"b": c}, a ? b : c), "b": [a, b, [a, b]], "c": -a + b.x[c]}`
	ts := tokens(t, source)
	before := slices.Clone(ts)
	e, _, _ := parser.Take(ts)
	want, _, _ := parser.Take(ts)
	for i := range e.Args {
		overwrite(e.Args[i])
		for j := range e.Args {
			if j > i && !same(e.Args[j], want.Args[j]) {
				t.Errorf("args %d and %d share memory", i, j)
			}
		}
	}
	overwrite(e)
	if !slices.Equal(ts, before) || parser.Show(want) != source {
		t.Error("Take changes or keeps its argument")
	}
	args := append(make([]api.Expr, 0, 4), a, b)
	e = dict(append(make([]string, 0, 4), "x", "y"), args...)
	parser.Valid(e)
	parser.Show(e)
	parser.Count(e)
	parser.Equal(e, e)
	if !same(e, dict(keys("x", "y"), a, b)) || !same(args[:4][2], api.Expr{}) || e.Keys[:4][2] != "" {
		t.Error("an argument was changed")
	}
}
