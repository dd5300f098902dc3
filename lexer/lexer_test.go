package lexer_test

import (
	"math/rand/v2"
	"regexp"
	"slices"
	"strconv"
	"strings"
	"testing"
	"unicode/utf8"

	"pipeline/api"
	"pipeline/lexer"
	"pipeline/value"
)

func name(s string, at int) api.Token { return api.Token{Kind: api.TokName, Text: s, At: at} }

func number(s string, at int) api.Token { return api.Token{Kind: api.TokInt, Text: s, At: at} }

func str(s string, at int) api.Token { return api.Token{Kind: api.TokString, Text: s, At: at} }

func op(s string, at int) api.Token { return api.Token{Kind: api.TokOp, Text: s, At: at} }

func newline(at int) api.Token { return api.Token{Kind: api.TokNewline, At: at} }

func tokens(ts ...api.Token) []api.Token { return ts }

var (
	longName   = strings.Repeat("n", api.MaxName)
	longString = strings.Repeat("s", api.MaxString)
	escaped    = strings.Repeat(`\xff`, api.MaxString)
)

// P9.1
func TestTokens(t *testing.T) {
	for _, x := range []struct {
		src  string
		want []api.Token
	}{
		{"", nil},
		{" \t ", nil},
		{"#", nil},
		{"# a\r\x00\xff\"(", nil},
		{"a", tokens(name("a", 0))},
		{"a <= 10 # x", tokens(name("a", 0), op("<=", 2), number("10", 5))},
		{"Zz_09 _ __9 true", tokens(name("Zz_09", 0), name("_", 6), name("__9", 8), name("true", 12))},
		{longName + " A", tokens(name(longName, 0), name("A", 65))},
		{"0 1 10 9007199254740992", tokens(number("0", 0), number("1", 2), number("10", 4), number("9007199254740992", 7))},
		{"a-1.5", tokens(name("a", 0), op("-", 1), number("1", 2), op(".", 3), number("5", 4))},
		{`1"a"b"c"2`, tokens(number("1", 0), str("a", 1), name("b", 4), str("c", 5), number("2", 8))},

		// Strings.
		{`""`, tokens(str("", 0))},
		{`"" ""`, tokens(str("", 0), str("", 3))},
		{`" #a'"`, tokens(str(" #a'", 0))},
		{`"\"\\\n\t"`, tokens(str("\"\\\n\t", 0))},
		{`"\x00\x7F\xfF\xAb0"`, tokens(str("\x00\x7f\xff\xab0", 0))},
		{"\" !~\x7f\x80\xffé€\" a", tokens(str(" !~\x7f\x80\xffé€", 0), name("a", 14))},
		{`"\\" "\\\""`, tokens(str(`\`, 0), str(`\"`, 5))},
		{`"` + longString + `"a`, tokens(str(longString, 0), name("a", 4098))},
		{`"` + escaped + `"a`, tokens(str(strings.Repeat("\xff", api.MaxString), 0), name("a", 4*4096+2))},

		// Operators have as many bytes as possible.
		{"||&&==!=<=>=", tokens(op("||", 0), op("&&", 2), op("==", 4), op("!=", 6), op("<=", 8), op(">=", 10))},
		{"<>+-*/%!?:.,=()[]{}", tokens(op("<", 0), op(">", 1), op("+", 2), op("-", 3), op("*", 4), op("/", 5), op("%", 6), op("!", 7), op("?", 8), op(":", 9), op(".", 10), op(",", 11), op("=", 12), op("(", 13), op(")", 14), op("[", 15), op("]", 16), op("{", 17), op("}", 18))},
		{"=== !== <== =<= ====", tokens(op("==", 0), op("=", 2), op("!=", 4), op("=", 6), op("<=", 8), op("=", 10), op("=", 12), op("<=", 13), op("==", 16), op("==", 18))},
		{"< = ! = > =", tokens(op("<", 0), op("=", 2), op("!", 4), op("=", 6), op(">", 8), op("=", 10))},
		{"!!--", tokens(op("!", 0), op("!", 1), op("-", 2), op("-", 3))},

		// Line feeds.
		{"\n", tokens(newline(0))},
		{"\n\n \n", tokens(newline(0))},
		{"a\n\nb", tokens(name("a", 0), newline(1), name("b", 3))},
		{"a # b\n# c\n\t\nd", tokens(name("a", 0), newline(5), name("d", 12))},
		{"a\nb\n", tokens(name("a", 0), newline(1), name("b", 2), newline(3))},
		{"{\n}", tokens(op("{", 0), newline(1), op("}", 2))},
		{"(a,\nb)\n", tokens(op("(", 0), name("a", 1), op(",", 2), name("b", 4), op(")", 5), newline(6))},
		{"[\n]", tokens(op("[", 0), op("]", 2))},
		{"[(\n)\n]\n", tokens(op("[", 0), op("(", 1), op(")", 3), op("]", 5), newline(6))},
		{"(]\n", tokens(op("(", 0), op("]", 1), newline(2))},
		{"([)\n]\n", tokens(op("(", 0), op("[", 1), op(")", 2), op("]", 4), newline(5))},
		{")]\n(\n)", tokens(op(")", 0), op("]", 1), newline(2), op("(", 3), op(")", 5))},
		{"({\n})\n", tokens(op("(", 0), op("{", 1), op("}", 3), op(")", 4), newline(5))},
		{"\"(\"\n", tokens(str("(", 0), newline(3))},
		{"\")\"(\n", tokens(str(")", 0), op("(", 3))},
		{"(\")\"\n", tokens(op("(", 0), str(")", 1))},
		{"# (\n", tokens(newline(3))},
		{"( # )\n\na", tokens(op("(", 0), name("a", 7))},
		{"(\n", tokens(op("(", 0))},

		{strings.Repeat(" ", api.MaxSource), nil},
		{strings.Repeat(" ", api.MaxSource-1) + "a", tokens(name("a", api.MaxSource-1))},
	} {
		ts, at, e := lexer.Tokens(x.src)
		if e != api.OK || at != 0 || !slices.Equal(ts, x.want) {
			t.Errorf("Tokens(%.40q) = %v, %d, %v, want %v", x.src, ts, at, e, x.want)
		}
	}
}

var failures = []struct {
	src  string
	at   int
	want api.Errno
}{
	{strings.Repeat(" ", api.MaxSource+1), 0, api.ErrTooLong},
	{"a |" + strings.Repeat(" ", api.MaxSource), 0, api.ErrTooLong},

	{longName + "n", 0, api.ErrTooLong},
	{"a\n" + strings.Repeat("_", api.MaxName+1), 2, api.ErrTooLong},
	{longName + "0", 0, api.ErrTooLong},
	{strings.Repeat("n", api.MaxSource), 0, api.ErrTooLong},

	{"007", 0, api.ErrSyntax},
	{"00", 0, api.ErrSyntax},
	{"01", 0, api.ErrSyntax},
	{"1a", 0, api.ErrSyntax},
	{"0x1", 0, api.ErrSyntax},
	{"1_000", 0, api.ErrSyntax},
	{"1_", 0, api.ErrSyntax},
	{"1Z1", 0, api.ErrSyntax},
	{"1" + longName, 0, api.ErrSyntax},
	{" a+12b", 3, api.ErrSyntax},
	{"9007199254740993", 0, api.ErrRange},
	{"10000000000000000", 0, api.ErrRange},
	{"9223372036854775808", 0, api.ErrRange},
	{"18446744073709551616", 0, api.ErrRange},
	{"18446744073709551617", 0, api.ErrRange},
	{"[" + strings.Repeat("9", 60000) + "]", 1, api.ErrRange},
	{"9007199254740993a", 0, api.ErrSyntax},
	{"09007199254740993", 0, api.ErrSyntax},

	{`"`, 0, api.ErrTruncated},
	{`"a`, 0, api.ErrTruncated},
	{`a""" `, 3, api.ErrTruncated},
	{`"\`, 0, api.ErrTruncated},
	{`"a\"`, 0, api.ErrTruncated},
	{`"\x`, 0, api.ErrTruncated},
	{`"\xf`, 0, api.ErrTruncated},
	{`"\xff`, 0, api.ErrTruncated},
	{`"` + longString + "s", 0, api.ErrTruncated},
	{`"\a"`, 0, api.ErrSyntax},
	{`"\N"`, 0, api.ErrSyntax},
	{`"\r"`, 0, api.ErrSyntax},
	{`"\0"`, 0, api.ErrSyntax},
	{`"\X41"`, 0, api.ErrSyntax},
	{`"\u0041"`, 0, api.ErrSyntax},
	{`"\q`, 0, api.ErrSyntax},
	{`"\x"`, 0, api.ErrSyntax},
	{`"\xg`, 0, api.ErrSyntax},
	{`"\x4"`, 0, api.ErrSyntax},
	{`"\x4g`, 0, api.ErrSyntax},
	{`"\x+1"`, 0, api.ErrSyntax},
	{`"\x 1"`, 0, api.ErrSyntax},
	{`"\x1_"`, 0, api.ErrSyntax},
	{"\"\\x\x10\x11\"", 0, api.ErrSyntax},
	{"\"\\\n\"", 0, api.ErrSyntax},
	{"\"\n\"", 0, api.ErrSyntax},
	{"\"\n", 0, api.ErrSyntax},
	{"(\"a\n\")", 1, api.ErrSyntax},
	{"\"\t\"", 0, api.ErrSyntax},
	{"\"\x00\"", 0, api.ErrSyntax},
	{"\"\x1f\"", 0, api.ErrSyntax},
	{`"` + longString + `s"`, 0, api.ErrTooLong},
	{`"` + longString + `\n"`, 0, api.ErrTooLong},
	{`"` + longString + "s\n", 0, api.ErrSyntax},
	{`"` + longString + `s\x`, 0, api.ErrTruncated},
	{`"` + escaped + `\x00"`, 0, api.ErrTooLong},

	{"|", 0, api.ErrSyntax},
	{"|||", 2, api.ErrSyntax},
	{"| |", 0, api.ErrSyntax},
	{"a && b & c", 7, api.ErrSyntax},
	{"a\r\n", 1, api.ErrSyntax},
	{"a;", 1, api.ErrSyntax},
	{"a\x00", 1, api.ErrSyntax},
	{"'a'", 0, api.ErrSyntax},
	{"aé", 1, api.ErrSyntax},
	{"1é", 1, api.ErrSyntax},
	{"\xff", 0, api.ErrSyntax},
	{"\u00a0", 0, api.ErrSyntax},
	{"# a\n\x80", 4, api.ErrSyntax},

	// The first token that has an error.
	{"1a |", 0, api.ErrSyntax},
	{"| 1a", 0, api.ErrSyntax},
	{"9007199254740993 007", 0, api.ErrRange},
	{"a \"b\" " + longName + "n | \"", 6, api.ErrTooLong},
}

// P9.1
func TestTokensErrors(t *testing.T) {
	for _, x := range failures {
		if ts, at, e := lexer.Tokens(x.src); e != x.want || at != x.at || len(ts) != 0 {
			t.Errorf("Tokens(%.40q) = %v, %d, %v, want %d, %v", x.src, ts, at, e, x.at, x.want)
		}
	}
}

// The forms of tokens, for sources in which every byte is written as the rune with its number.
const characterForm = `(?:[^\x00-\x1f"\\]|\\["\\nt]|\\x[0-9A-Fa-f]{2})`

var (
	ignoredForm = regexp.MustCompile(`^(?:[ \t]|#[^\n]*)`)
	nameForm    = regexp.MustCompile(`^[A-Za-z_][A-Za-z0-9_]*`)
	digitsForm  = regexp.MustCompile(`^[0-9]+`)
	cutForm     = regexp.MustCompile(`^"` + characterForm + `*(?:\\(?:x[0-9A-Fa-f]?)?)?$`)
	stringForm  = regexp.MustCompile(`^"` + characterForm + `*"`)
	opForm      = regexp.MustCompile(`^(?:\|\||&&|[=!<>]=|[-<>+*/%!?:.,=()\[\]{}])`)
)

// runes returns a string of the runes whose numbers are the bytes of s.
func runes(s string) string {
	r := make([]rune, len(s))
	for i := range len(s) {
		r[i] = rune(s[i])
	}
	return string(r)
}

// defined returns the tokens of a source by the definitions of the chapter.
func defined(src string) ([]api.Token, int, api.Errno) {
	var ts []api.Token
	open := 0
	for at := 0; at < len(src); {
		rest := runes(src[at:])
		if skip := ignoredForm.FindString(rest); skip != "" {
			at += utf8.RuneCountInString(skip)
			continue
		}
		if rest[0] == '\n' {
			if open == 0 && (len(ts) == 0 || ts[len(ts)-1].Kind != api.TokNewline) {
				ts = append(ts, newline(at))
			}
			at++
			continue
		}
		token, length, e := definedToken(rest)
		if e != api.OK {
			return nil, at, e
		}
		if token.Kind == api.TokOp && strings.Contains("([", token.Text) {
			open++
		} else if token.Kind == api.TokOp && strings.Contains(")]", token.Text) {
			open = max(open-1, 0)
		}
		token.At = at
		ts = append(ts, token)
		at += length
	}
	return ts, 0, api.OK
}

// definedToken returns the first token of runes that begin with one, and its length.
func definedToken(rest string) (api.Token, int, api.Errno) {
	if s := nameForm.FindString(rest); s != "" {
		if len(s) > api.MaxName {
			return api.Token{}, 0, api.ErrTooLong
		}
		return name(s, 0), len(s), api.OK
	}
	if s := digitsForm.FindString(rest); s != "" {
		n, err := strconv.ParseUint(s, 10, 64)
		switch {
		case len(s) > 1 && s[0] == '0' || nameForm.MatchString(rest[len(s):]):
			return api.Token{}, 0, api.ErrSyntax
		case err != nil || n > api.MaxNumber:
			return api.Token{}, 0, api.ErrRange
		}
		return number(s, 0), len(s), api.OK
	}
	if s := opForm.FindString(rest); s != "" {
		return op(s, 0), len(s), api.OK
	}
	if cutForm.MatchString(rest) {
		return api.Token{}, 0, api.ErrTruncated
	}
	literal := stringForm.FindString(rest)
	if literal == "" {
		return api.Token{}, 0, api.ErrSyntax
	}
	text, err := strconv.Unquote(regexp.MustCompile(`[\x80-\xff]`).ReplaceAllStringFunc(literal, func(s string) string {
		r, _ := utf8.DecodeRuneInString(s)
		return `\x` + strconv.FormatInt(int64(r), 16)
	}))
	if err != nil {
		panic(err)
	}
	if len(text) > api.MaxString {
		return api.Token{}, 0, api.ErrTooLong
	}
	return str(text, 0), utf8.RuneCountInString(literal), api.OK
}

// symbols are what the sources of the tests are made of.
var symbols = []string{
	"a", "Z", "_", "0", "1", "7", "\"", "\\", "x", "n", "g", "|", "&", "=", "<", "!", "-", ".", "(", ")", "[", "]", "{", "}",
	"#", "\n", " ", "\t", "\r", "\x00", "\x7f", "\x80", "é", "\xff", "%", "?", ";", "$",
}

func compare(t *testing.T, src string) {
	ts, at, e := lexer.Tokens(src)
	wantTs, wantAt, want := defined(src)
	if !slices.Equal(ts, wantTs) || at != wantAt || e != want {
		t.Fatalf("Tokens(%q) = %v, %d, %v, want %v, %d, %v", src, ts, at, e, wantTs, wantAt, want)
	}
}

// P9.1: all sources of three symbols, and longer ones, have the tokens and the errors of the definitions.
func TestTokensByDefinition(t *testing.T) {
	compare(t, "")
	for _, a := range symbols {
		compare(t, a)
		for _, b := range symbols {
			compare(t, a+b)
			for _, c := range symbols {
				compare(t, a+b+c)
			}
		}
	}
	g := rand.New(rand.NewPCG(9, 1))
	for range 30000 {
		compare(t, random(g, 12))
		compare(t, `"`+random(g, 4)+`" `+random(g, 3))
	}
	for _, x := range failures {
		if len(x.src) <= api.MaxSource {
			compare(t, x.src)
		}
	}
}

// P9.1: every byte where a token can begin, and at each place of a string.
func TestTokensOfEveryByte(t *testing.T) {
	for c := range 256 {
		s := string([]byte{byte(c)})
		for _, src := range []string{s, "a" + s, "1" + s, "\"" + s + "\"", "\"\\" + s + "\"", "\"\\x" + s + "0\"", "\"\\x0" + s + "\"", "\"\\" + s, "\"\\x" + s, "\"\\x0" + s, "#" + s + "a", "(" + s + "a"} {
			compare(t, src)
		}
	}
}

func random(g *rand.Rand, most int) string {
	var b strings.Builder
	for range g.IntN(most + 1) {
		b.WriteString(symbols[g.IntN(len(symbols))])
	}
	return b.String()
}

// P9.2
func TestQuote(t *testing.T) {
	for _, x := range []struct{ s, want string }{
		{"", `""`},
		{"a b", `"a b"`},
		{"\"\\\n\t\r\x00", `"\"\\\n\t\x0d\x00"`},
		{" ~\x1f\x7f\x80\xff", `" ~\x1f\x7f\x80\xff"`},
		{"é€", `"\xc3\xa9\xe2\x82\xac"`},
		{"${'`/#", "\"${'`/#\""},
		{strings.Repeat("\xab", 3*api.MaxSource), `"` + strings.Repeat(`\xab`, 3*api.MaxSource) + `"`},
	} {
		if got := lexer.Quote(x.s); got != x.want {
			t.Errorf("Quote(%.40q) = %.40s, want %.40s", x.s, got, x.want)
		}
	}
}

// P9.2: the literals are those of layer 7.
func TestQuoteIsShow(t *testing.T) {
	compareLiterals := func(s string) {
		if got, want := lexer.Quote(s), value.Show(api.Value{Kind: api.VString, Str: s}); got != want {
			t.Errorf("Quote(%.40q) = %.40s, want %.40s", s, got, want)
		}
	}
	for c := range 256 {
		compareLiterals(string([]byte{byte(c)}))
	}
	g := rand.New(rand.NewPCG(9, 2))
	for range 5000 {
		compareLiterals(random(g, 30))
	}
	compareLiterals(longString)
}

// P9.3
func TestJoin(t *testing.T) {
	for _, x := range []struct {
		ts   []api.Token
		want string
	}{
		{nil, ""},
		{tokens(name("a", 7)), "a"},
		{tokens(name("a", 0), op(".", 0), name("b", 0)), "a . b"},
		{tokens(op("(", 3), number("1", 2), op(",", 1), str("x\n", 0), op(")", 0)), `( 1 , "x\n" )`},
		{tokens(name("a", 0), newline(0), name("b", 0), name("c", 0), newline(0)), "a\nb c\n"},
		{tokens(newline(0), newline(0), name("a", 0)), "\n\na"},
		{tokens(str("", 0), str("\"", 0)), `"" "\""`},

		// Tokens that no source has.
		{tokens(name("", 0), name("", 0), number("a b", 0), op("\n", 0)), "  a b \n"},
		{tokens(api.Token{Kind: api.TokNewline, Text: "text", At: 1}, op("x", 0)), "\nx"},
		{tokens(api.Token{Text: "none"}, api.Token{Kind: 6, Text: "\""}, api.Token{Kind: -1}), "none \" "},
		{tokens(str(longString+"\n", 0)), `"` + longString + `\n"`},
	} {
		before := slices.Clone(x.ts)
		if got := lexer.Join(x.ts); got != x.want || !slices.Equal(before, x.ts) {
			t.Errorf("Join(%.80v) = %.80q, want %.80q", x.ts, got, x.want)
		}
	}
}

// kindsAndTexts returns the tokens without their At.
func kindsAndTexts(ts []api.Token) []api.Token {
	ts = slices.Clone(ts)
	for i := range ts {
		ts[i].At = 0
	}
	return ts
}

// P9.4: Tokens of Join.
func TestTokensOfJoin(t *testing.T) {
	g := rand.New(rand.NewPCG(9, 3))
	pieces := []string{"a", "true", "_9", "0", "12", `""`, `"a\n"`, `"("`, "||", "&&", "<", "=", "==", "<=", "!", "-", ":", ".", ",", "(", ")", "[", "]", "{", "}", "\n", "\n", " ", "\t", "#\n", "# (\n"}
	for range 30000 {
		var b strings.Builder
		for range g.IntN(12) {
			b.WriteString(pieces[g.IntN(len(pieces))])
		}
		ts, _, e := lexer.Tokens(b.String())
		if e != api.OK {
			continue
		}
		joined := lexer.Join(ts)
		again, at, e := lexer.Tokens(joined)
		if e != api.OK || at != 0 || !slices.Equal(kindsAndTexts(again), kindsAndTexts(ts)) || lexer.Join(again) != joined {
			t.Fatalf("Tokens(%q) = %v, %v, want %v", joined, again, e, ts)
		}
	}
}

// P9.4: Tokens of Quote.
func TestTokensOfQuote(t *testing.T) {
	g := rand.New(rand.NewPCG(9, 4))
	list := []string{"", longString, strings.Repeat("\x80", api.MaxString), strings.Repeat("\"", api.MaxString)}
	for c := range 256 {
		list = append(list, string([]byte{byte(c)}))
	}
	for range 5000 {
		list = append(list, random(g, 20))
	}
	for _, s := range list {
		if ts, at, e := lexer.Tokens(lexer.Quote(s)); e != api.OK || at != 0 || !slices.Equal(ts, tokens(str(s, 0))) {
			t.Fatalf("Tokens(Quote(%.40q)) = %.80v, %d, %v", s, ts, at, e)
		}
	}
}

// P9.4: blanks and comments at the end.
func TestEndOfSource(t *testing.T) {
	for _, src := range []string{"", "a", "a\n", "(a", "1 # b", "a <", "\n\n", `"a"`, "|", "1a", longName + "n"} {
		ts, at, e := lexer.Tokens(src)
		for _, end := range []string{" ", "\t", "  \t", " #", " # x", " # \xff\"|", "\t#("} {
			if ts2, at2, e2 := lexer.Tokens(src + end); !slices.Equal(ts2, ts) || at2 != at || e2 != e {
				t.Errorf("Tokens(%q) = %v, %d, %v, want %v, %d, %v", src+end, ts2, at2, e2, ts, at, e)
			}
		}
	}
}
