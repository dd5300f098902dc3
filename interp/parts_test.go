package interp_test

import (
	"math"
	"math/rand/v2"
	"regexp"
	"slices"
	"strings"
	"testing"

	"pipeline/api"
	"pipeline/interp"
	"pipeline/parser"
)

func parsed(t *testing.T, source string) api.Expr {
	t.Helper()
	e, at, err := parser.Parse(source)
	if err != api.OK {
		t.Fatalf("Parse(%s) = %d, %v", source, at, err)
	}
	return e
}

func text(s string) api.Piece { return api.Piece{Text: s} }

func expr(e api.Expr) api.Piece { return api.Piece{Is: true, Expr: e} }

func isZero(e api.Expr) bool {
	v := e.Value
	return e.Kind == 0 && e.Name == "" && len(e.Args)+len(e.Keys)+len(v.List)+len(v.Keys) == 0 && v.Kind == 0 && !v.Bool && v.Int == 0 && v.Str == ""
}

func same(a, b api.Piece) bool {
	return a.Is == b.Is && a.Text == b.Text && parser.Equal(a.Expr, b.Expr)
}

// wellFormed reports whether each piece has only fields of its kind, and no two texts follow each other.
func wellFormed(ps []api.Piece) bool {
	for i, p := range ps {
		switch {
		case p.Is && (p.Text != "" || isZero(p.Expr)):
			return false
		case !p.Is && (p.Text == "" || !isZero(p.Expr) || i > 0 && !ps[i-1].Is):
			return false
		}
	}
	return true
}

func repeated(s string, count int) string { return strings.Repeat(s, count) }

// divided are strings with their pieces, where expressions stand with the $ and braces around their canonical sources.
var divided = []struct {
	s    string
	want []string
}{
	{"", nil},
	{"a", []string{"a"}},
	{"a b\n\x00\xff\"\\é", []string{"a b\n\x00\xff\"\\é"}},
	{"$", []string{"$"}},
	{"$$", []string{"$"}},
	{"$$$", []string{"$$"}},
	{"$$$$", []string{"$$"}},
	{"$x", []string{"$x"}},
	{"$x$", []string{"$x$"}},
	{"$ {x}", []string{"$ {x}"}},
	{"$}", []string{"$}"}},
	{"{x}", []string{"{x}"}},
	{"}{", []string{"}{"}},
	{"$${", []string{"${"}},
	{"$${x}", []string{"${x}"}},
	{"$$${x}", []string{"$", "${x}"}},
	{"$$$${x}", []string{"$${x}"}},
	{"$\"${x}\"", []string{"$\"", "${x}", "\""}},
	{"\\${x}", []string{"\\", "${x}"}},
	{"${x}", []string{"${x}"}},
	{"${x}}", []string{"${x}", "}"}},
	{"${x}$", []string{"${x}", "$"}},
	{"${x}$$", []string{"${x}", "$"}},
	{"${x}${y}", []string{"${x}", "${y}"}},
	{"${x} ${y}", []string{"${x}", " ", "${y}"}},
	{"${x}$${y}", []string{"${x}", "${y}"}}, // the second one is a text
	{"a$$b${x + 1}c", []string{"a$b", "${x + 1}", "c"}},
	{"${ x+1\t}", []string{"${x + 1}"}},
	{"${(x\n+ 1)}", []string{"${x + 1}"}},
	{"${x # y}", []string{"${x}"}},
	{"${x # {}}", []string{"${x}"}},
	{"${x # \"}\"}", []string{"${x}"}},
	{"${(x # {}\n)}", []string{"${x}"}},
	{"${{}}", []string{"${{}}"}},
	{"${{a:{}}}}", []string{"${{\"a\": {}}}", "}"}},
	{"${{\"}\": 1}[\"}\"]}", []string{"${{\"}\": 1}[\"}\"]}"}},
	{"${{\"{\": 1}}{", []string{"${{\"{\": 1}}", "{"}},
	{"${\"}\"}", []string{"${\"}\"}"}},
	{"${\"{{\"}", []string{"${\"{{\"}"}},
	{"${\"\\\"}\"}", []string{"${\"\\\"}\"}"}},
	{"${\"\\\\\"}\"}", []string{"${\"\\\\\"}", "\"}"}},
	{"${\"\\\\\\\"}\"}", []string{"${\"\\\\\\\"}\"}"}},
	{"${\"${x}\"}", []string{"${\"${x}\"}"}},
	{"${\"$$\"}", []string{"${\"$$\"}"}},
	{"${true ? [x, -1] : f(x.y)}", []string{"${true ? [x, -1] : f(x.y)}"}},
	{repeated("a", api.MaxString), []string{repeated("a", api.MaxString)}},
	{repeated("$", api.MaxString), []string{repeated("$", api.MaxString/2)}},
	{"${" + repeated(" ", api.MaxString-4) + "x}", []string{"${x}"}},
	{repeated("${x}", api.MaxString/4), slices.Repeat([]string{"${x}"}, api.MaxString/4)},
	{"${" + repeated("{a:", 15) + "1" + repeated("}", 15) + "}", []string{"${" + repeated("{\"a\": ", 15) + "1" + repeated("}", 15) + "}"}},
}

// P13.1
func TestParts(t *testing.T) {
	for _, x := range divided {
		ps, at, err := interp.Parts(x.s)
		if err != api.OK || at != 0 || !wellFormed(ps) {
			t.Errorf("Parts(%.40q) = %v, %d, %v", x.s, ps, at, err)
			continue
		}
		var got []string
		for _, p := range ps {
			if p.Is {
				p.Text = "${" + parser.Show(p.Expr) + "}"
			}
			got = append(got, p.Text)
		}
		if !slices.Equal(got, x.want) {
			t.Errorf("Parts(%.40q) = %q, want %q", x.s, got, x.want)
		}
	}
	ps, _, _ := interp.Parts("${x}$${y}")
	if len(ps) != 2 || !ps[0].Is || ps[1].Is {
		t.Errorf("$$ begins an expression: %v", ps)
	}
}

var notDivided = []struct {
	s    string
	at   int
	want api.Errno
}{
	{repeated("a", api.MaxString+1), 0, api.ErrTooLong},
	{"ab${" + repeated(" ", api.MaxString), 0, api.ErrTooLong},
	{"${a b}" + repeated("a", api.MaxString), 0, api.ErrTooLong},

	{"${", 0, api.ErrTruncated},
	{"$$${", 2, api.ErrTruncated},
	{"ab${x", 2, api.ErrTruncated},
	{"ab${{}", 2, api.ErrTruncated},
	{"ab${{{}}", 2, api.ErrTruncated},
	{"${x}${", 4, api.ErrTruncated},
	{"${\"}", 0, api.ErrTruncated},
	{"${\"\\\"}", 0, api.ErrTruncated},
	{"${\"\\", 0, api.ErrTruncated},
	{"${\"a\" \"}", 0, api.ErrTruncated},
	{"${x # \"}", 0, api.ErrTruncated},
	{"${x # {}", 0, api.ErrTruncated},
	{"a${" + repeated("{", api.MaxString-3), 1, api.ErrTruncated},

	// Errors of Parse, and the bytes that they refer to.
	{"${}", 2, api.ErrTruncated},
	{"ab${ }c", 5, api.ErrTruncated},
	{"a${1 +}", 6, api.ErrTruncated},
	{"${#}", 3, api.ErrTruncated},
	{"${a b}", 4, api.ErrSyntax},
	{"a${x\n}", 4, api.ErrSyntax},
	{"${x # {\n}}", 7, api.ErrSyntax},
	{"${{a: 1,\n b: 2}}", 8, api.ErrSyntax},
	{"${x}${007}", 6, api.ErrSyntax},
	{"${$}", 2, api.ErrSyntax},
	{"${x${y}}", 3, api.ErrSyntax},
	{"${a < b < c}", 8, api.ErrSyntax},
	{"$$${ |}", 5, api.ErrSyntax},
	{"${\\}", 2, api.ErrSyntax},
	{"${\"\n\"}", 2, api.ErrSyntax},
	{"${x + 9007199254740993}", 6, api.ErrRange},
	{"é${" + repeated("n", api.MaxName+1) + "}", 4, api.ErrTooLong},
	{"a${ {b: 1, \"b\": 2} }", 4, api.ErrExists},
	{"a${{\"\": 1}}", 3, api.ErrInvalid},
	{"a${ " + repeated("-", 15) + "1}", 0, api.OK},
	{"a${ " + repeated("-", 16) + "1}", 4, api.ErrDepth},
	{"${[" + repeated("x,", api.MaxList) + "x]}", 2, api.ErrTooLong},

	// Expression by expression.
	{"${a b}${", 4, api.ErrSyntax},
	{"${007}${9007199254740993}", 2, api.ErrSyntax},
	{"${9007199254740993}${007}", 2, api.ErrRange},
	{"${}${x", 2, api.ErrTruncated},
	{"${x}$${${x", 7, api.ErrTruncated},
	{"${x}$${${}", 9, api.ErrTruncated},
}

// P13.1
func TestPartsErrors(t *testing.T) {
	for _, x := range notDivided {
		ps, at, err := interp.Parts(x.s)
		if at != x.at || err != x.want || err != api.OK && len(ps) != 0 {
			t.Errorf("Parts(%.40q) = %v, %d, %v, want %d, %v", x.s, ps, at, err, x.at, x.want)
		}
	}
}

// What the definitions say of the beginning of strings, for strings of ASCII.
var (
	textForm   = regexp.MustCompile(`^(?s:\$\$|\$[^${]|\$$|[^$])+`)
	quotedForm = regexp.MustCompile(`^"(?s:[^"\\]|\\.)*"`)
)

// balanced returns the index of the first brace from at on that closes none that was opened from there on, or -1.
func balanced(s string, at int) int {
	for at >= 0 && at < len(s) && s[at] != '}' {
		switch s[at] {
		case '"':
			quoted := quotedForm.FindString(s[at:])
			if quoted == "" {
				return -1
			}
			at += len(quoted)
		case '{':
			at = balanced(s, at+1) + 1
			if at == 0 {
				return -1
			}
		default:
			at++
		}
	}
	if at == len(s) {
		return -1
	}
	return at
}

// define returns what Parts has to return for a string of ASCII.
func define(s string) ([]api.Piece, int, api.Errno) {
	var ps []api.Piece
	for at := 0; at < len(s); {
		if form := textForm.FindString(s[at:]); form != "" {
			ps = append(ps, text(strings.Join(strings.Split(form, "$$"), "$")))
			at += len(form)
			continue
		}
		end := balanced(s, at+2)
		if end < 0 {
			return nil, at, api.ErrTruncated
		}
		e, index, err := parser.Parse(s[at+2 : end])
		if err != api.OK {
			return nil, at + 2 + index, err
		}
		ps = append(ps, expr(e))
		at = end + 1
	}
	return ps, 0, api.OK
}

// strings over an alphabet, up to a length, in a range over a function.
func words(alphabet string, length int) func(func(string) bool) {
	return func(yield func(string) bool) { extend("", alphabet, length, yield) }
}

func extend(s, alphabet string, length int, yield func(string) bool) bool {
	if !yield(s) {
		return false
	}
	for i := range len(alphabet) {
		if len(s) < length && !extend(s+alphabet[i:i+1], alphabet, length, yield) {
			return false
		}
	}
	return true
}

func expectDefined(t *testing.T, s string) {
	t.Helper()
	want, index, wantErr := define(s)
	ps, at, err := interp.Parts(s)
	if at != index || err != wantErr || !slices.EqualFunc(ps, want, same) || !wellFormed(ps) {
		t.Fatalf("Parts(%q) = %v, %d, %v, want %v, %d, %v", s, ps, at, err, want, index, wantErr)
	}
	if err != api.OK {
		return
	}
	// P13.6: the pieces of a string have a string of one form.
	shown := interp.Show(ps)
	again, _, err := interp.Parts(shown)
	if err != api.OK || !slices.EqualFunc(again, ps, same) || interp.Show(again) != shown {
		t.Fatalf("Show of the pieces of %q is %q, which has other pieces", s, shown)
	}
}

// P13.1, P13.6: all short strings of the bytes that matter.
func TestAllParts(t *testing.T) {
	for s := range words("${}x", 8) {
		expectDefined(t, s)
	}
	for s := range words("${}\"\\x", 5) {
		expectDefined(t, s)
		expectDefined(t, "${"+s+"}")
		expectDefined(t, "${\""+s+"\"}$")
	}
}

// P13.2: also pieces that Parts does not return.
func TestShow(t *testing.T) {
	x, minus := parsed(t, "x+1"), api.Expr{Kind: api.ELit, Value: api.Value{Kind: api.VInt, Int: -5}}
	for _, c := range []struct {
		ps   []api.Piece
		want string
	}{
		{nil, ""},
		{[]api.Piece{{}}, ""},
		{[]api.Piece{text("a"), {}, text("b")}, "ab"},
		{[]api.Piece{text("$")}, "$$"},
		{[]api.Piece{text("a$b$$"), text("$")}, "a$$b$$$$$$"},
		{[]api.Piece{text("${x}")}, "$${x}"},
		{[]api.Piece{text("$"), expr(x), text("}{")}, "$$${x + 1}}{"},
		{[]api.Piece{text("\x00\xff\"é\\\n")}, "\x00\xff\"é\\\n"},
		{[]api.Piece{expr(x), expr(x)}, "${x + 1}${x + 1}"},
		{[]api.Piece{expr(parsed(t, `{"}":"$${"}`))}, `${{"}": "$${"}}`},
		{[]api.Piece{expr(minus)}, "${-5}"},
		{[]api.Piece{{Is: true, Text: "a$", Expr: x}}, "${x + 1}"},
		{[]api.Piece{{Text: "a", Expr: x}}, "a"},
		{[]api.Piece{{Is: true}}, "${}"},
		{[]api.Piece{text("a"), expr(api.Expr{Kind: api.ELit, Value: api.Value{Kind: api.VInt, Int: math.MaxInt}}), text("b")}, "a${}b"},
		{[]api.Piece{expr(api.Expr{Kind: 11, Name: "x"}), expr(x)}, "${}${x + 1}"},
		{[]api.Piece{text(repeated("a$", api.MaxString))}, repeated("a$$", api.MaxString)},
	} {
		if got := interp.Show(c.ps); got != c.want {
			t.Errorf("Show(%.60v) = %.60q, want %.60q", c.ps, got, c.want)
		}
	}
}

// plainSources are canonical sources of plain expressions, in many of which braces, quotes and dollar signs stand.
var plainSources = []string{
	"x", "0", "null", "true", `""`, `"}"`, `"{"`, `"${x}"`, `"$$"`, `"\""`, `"\\"`, `"\\\"}"`, `"\n\x00\xff"`, `"#"`, "{}", "[]", `{"}": {}}`, `{"{": {"a": "}"}}`, `{"a": 1}.a`,
	"-x", "x + 1", "x ? {} : {}", `f({"\"": "}"}, "{")`, "a.b[0]", "(x ? 1 : 2) * 3", `{"a}": 1}["a}"]`,
}

var plainTexts = []string{"a", "$", "$$", "$$$", "{", "}", "${", "${x}", "\"", "\\", "\\\"", "x$", "$x", "#", "\n", "\x00\xff"}

// P13.6: pieces that were not read from a string.
func TestOneForm(t *testing.T) {
	chance := rand.New(rand.NewPCG(13, 6))
	expect := func(ps []api.Piece) {
		t.Helper()
		shown := interp.Show(ps)
		got, at, err := interp.Parts(shown)
		if err != api.OK || at != 0 || !slices.EqualFunc(got, ps, same) {
			t.Fatalf("Parts(%q) = %v, %d, %v, want %v", shown, got, at, err, ps)
		}
	}
	expect(nil)
	for range 20000 {
		var ps []api.Piece
		for range chance.IntN(6) {
			if len(ps) > 0 && !ps[len(ps)-1].Is || chance.IntN(2) == 0 {
				ps = append(ps, expr(parsed(t, plainSources[chance.IntN(len(plainSources))])))
			} else {
				ps = append(ps, text(plainTexts[chance.IntN(len(plainTexts))]))
			}
		}
		expect(ps)
	}
	expect([]api.Piece{text(repeated("$", api.MaxString/2))})
	expect([]api.Piece{text(repeated("a", api.MaxString-4)), expr(parsed(t, "x"))})
	for _, x := range divided {
		ps, _, _ := interp.Parts(x.s)
		expect(ps)
	}
}

// R5: the pieces of a result share no memory.
func TestPiecesAreNew(t *testing.T) {
	s := `${f(x, {"a": [1]})}${f(x, {"a": [1]})}`
	first, _, _ := interp.Parts(s)
	second, _, _ := interp.Parts(s)
	clear(first[0].Expr.Args[1].Keys)
	clear(first[0].Expr.Args[1].Args)
	clear(first[0].Expr.Args)
	if !same(first[1], second[0]) || !same(second[0], second[1]) {
		t.Errorf("pieces share memory: %v, %v", first, second)
	}
	args := second[0].Expr.Args
	interp.Show(second)
	if !parser.Equal(args[0], parsed(t, "x")) || second[0].Expr.Args[1].Keys[0] != "a" {
		t.Error("Show changed its argument")
	}
}
