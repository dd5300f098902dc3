package glob_test

import (
	"math/rand/v2"
	"regexp"
	"slices"
	"strings"
	"testing"

	"pipeline/api"
	"pipeline/glob"
)

var (
	elementForm = `\*\*|\*|\?|\[(?:` + itemForm + `)+\]|\\.|[^\\\[*?]`
	elements    = regexp.MustCompile(`(?s)` + elementForm)
	whole       = regexp.MustCompile(`(?s)^(?:` + elementForm + `)*$`)
	items       = regexp.MustCompile(`(?s)` + itemForm)
)

const (
	itemByte = `(?:[^\]\\-]|\\.)`
	itemForm = itemByte + `(?:-` + itemByte + `)?`
)

// translate returns the regular expression of a pattern of ASCII bytes, whether it is a pattern, and its literal prefix.
func translate(pattern string) (expression string, valid bool, prefix string) {
	if !whole.MatchString(pattern) {
		return "", false, ""
	}
	literal := true
	for _, x := range elements.FindAllString(pattern, -1) {
		switch {
		case x == "**":
			expression += `.*`
		case x == "*":
			expression += `[^/]*`
		case x == "?":
			expression += `[^/]`
		case x[0] == '[':
			part, ok := translateClass(x)
			if !ok {
				return "", false, ""
			}
			expression += part
		default:
			c := x[len(x)-1:]
			expression += regexp.QuoteMeta(c)
			if literal {
				prefix += c
			}
			continue
		}
		literal = false
	}
	return `(?s)^(?:` + expression + `)$`, true, prefix
}

func translateClass(class string) (string, bool) {
	alternatives := []string{`[^\x00-\x{10ffff}]`} // no character
	for _, item := range items.FindAllString(class[1:len(class)-1], -1) {
		low, high := item[0], item[len(item)-1]
		if low == '\\' {
			low = item[1]
		}
		if low > high {
			return "", false
		}
		for c := low; c <= high; c++ {
			if c != '/' {
				alternatives = append(alternatives, regexp.QuoteMeta(string(rune(c))))
			}
		}
	}
	return `(?:` + strings.Join(alternatives, "|") + `)`, true
}

// stringsOf returns all strings of at most most of the parts.
func stringsOf(most int, parts ...string) []string {
	list := []string{""}
	for begin := 0; most > 0; most-- {
		end := len(list)
		for _, s := range list[begin:end] {
			for _, part := range parts {
				list = append(list, s+part)
			}
		}
		begin = end
	}
	return list
}

// escaped returns s with a backslash before each byte.
func escaped(s string) string {
	pattern := ""
	for i := range len(s) {
		pattern += "\\" + s[i:i+1]
	}
	return pattern
}

func checkMatch(t *testing.T, pattern, s string, want bool) {
	t.Helper()
	if got := glob.Match(pattern, s); got != want {
		t.Errorf("Match(%.60q, %.60q) = %t", pattern, s, got)
	}
}

// P6.1
func TestValid(t *testing.T) {
	for _, pattern := range []string{
		"", "a", "A", "release/*", "/", "//", "*", "**", "***", "****", "?", "??", "*?*", "]", "]]", "-", "a-b", "!", "!a", "^", "{a,b}", "(", "$", ".",
		"[a]", "[abc]", "[a-c]", "[a-a]", "[a-cx-z]", "[a-c1]?", "[a-c/]", "[/]", "[!a]", "[^a]", "[[]", "[*]", "[?]", "[**]", "[ab-cd]",
		"[\\]]", "[\\-]", "[\\\\]", "[\\a]", "[\\--a]", "[+-\\-]", "[\\--\\-]", "[\\[-\\]]", "[\\a-\\c]", "[\\]-a]", "[!-~]", "[a]]", "[a][b]", "[a]-[b]",
		"\\*", "\\?", "\\[", "\\]", "\\\\", "\\a", "\\/", "\\\n", "\\\x00", "[\x00-\xff]", "[\xff-\xff]", "\xff", "é", "\\é", "[é]", "\x00", "a\nb",
		strings.Repeat("*", api.MaxString), strings.Repeat("a", api.MaxString), strings.Repeat("\\a", api.MaxString/2), strings.Repeat("[a]", api.MaxString/3),
	} {
		if e := glob.Valid(pattern); e != api.OK {
			t.Errorf("Valid(%.40q) = %v", pattern, e)
		}
	}
}

var invalid = []string{
	"\\", "a\\", "\\\\\\", "**\\", "[", "a[", "[a", "[a-", "[a-b", "[]", "[]a]", "a[]", "[-]", "[-a]", "[a-]", "[--a]", "[a--]", "[a-b-c]", "[a-b-]", "[a--b]",
	"[c-a]", "[b-a]", "[ac-b]", "[a-cz-x]", "[\xff-\x00]", "[\x80-\x7f]", "[a-\\]]", "[a-\\-]", "[\\b-\\a]", "[\x00-]", "[\x00--]", "[\x00-", "[\\", "[\\]", "[a\\]", "[a-\\", "[a-\\]", "[a-]]",
	"[a][", "[a][]", "[[", "x[y-", "a]b[", strings.Repeat("[", api.MaxString), strings.Repeat("a", api.MaxString-1) + "\\",
}

// P6.1, and that such a pattern matches nothing, has no literal prefix and overlaps none: P6.2, P6.4 and P6.5
func TestInvalidPatterns(t *testing.T) {
	for _, pattern := range invalid {
		checkInvalid(t, pattern, api.ErrSyntax)
	}
	for _, pattern := range []string{
		strings.Repeat("a", api.MaxString+1),
		strings.Repeat("*", api.MaxString+1),
		strings.Repeat("[", api.MaxString+1),
		strings.Repeat("a", api.MaxString) + "\\",
		strings.Repeat("\\a", api.MaxString/2+1),
		strings.Repeat("*", 1<<20),
	} {
		checkInvalid(t, pattern, api.ErrTooLong)
	}
}

func checkInvalid(t *testing.T, pattern string, e api.Errno) {
	t.Helper()
	if got := glob.Valid(pattern); got != e {
		t.Errorf("Valid(%.40q) = %v, want %v", pattern, got, e)
	}
	for _, s := range []string{"", "a", pattern, strings.TrimRight(pattern, "\\["), "a/b"} {
		checkMatch(t, pattern, s, false)
	}
	if prefix, all := glob.Literal(pattern); prefix != "" || all {
		t.Errorf("Literal(%.40q) = %.40q, %t", pattern, prefix, all)
	}
	for _, other := range []string{"**", "", "a", pattern} {
		if glob.Overlaps(pattern, other) || glob.Overlaps(other, pattern) {
			t.Errorf("%.40q overlaps %.40q", pattern, other)
		}
	}
}

// P6.2
func TestMatch(t *testing.T) {
	for _, c := range []struct {
		pattern string
		yes, no []string
	}{
		{"", []string{""}, []string{"a", "/", " "}},
		{"abc", []string{"abc"}, []string{"", "ab", "abcd", "xabc", "ABC", "abc/", "a/c"}},
		{"release/*", []string{"release/1", "release/", "release/a.b"}, []string{"release", "release/1/a", "xrelease/1", "release//"}},
		{"release/**", []string{"release/1", "release/1/a", "release/", "release//"}, []string{"release", "xrelease/1"}},
		{"**/a", []string{"/a", "x/a", "x/y/a", "a/a", "//a"}, []string{"a", "x/ya", "x/a/", "x/a/b"}},
		{"a/**/b", []string{"a//b", "a/x/b", "a/x/y/b"}, []string{"a/b", "ab", "a/x/b/c"}},
		{"*", []string{"", "a", "abc", "*", "\x00\xff"}, []string{"/", "a/", "/a", "a/b"}},
		{"**", []string{"", "a", "/", "a/b/c", "//", "\n\x00\xff"}, nil},
		{"***", []string{"", "a", "/", "a/b", "a/"}, nil},
		{"*/**", []string{"/", "a/", "a/b/c", "//"}, []string{"", "a"}},
		{"*/*", []string{"/", "a/", "/b", "a/b"}, []string{"", "a", "a/b/c", "//"}},
		{"?", []string{"a", "?", "\x00", "\xff", "\n"}, []string{"", "/", "ab", "é"}}, // é is two bytes
		{"??", []string{"ab", "é"}, []string{"a", "a/", "/a", "abc"}},
		{"?*", []string{"a", "abc"}, []string{"", "/", "a/"}},
		{"a*b*c", []string{"abc", "axxbyyc", "abbcc", "abcbc"}, []string{"axxbyy", "ac", "a/bc", "ab/c", "abcd"}},
		{"*a", []string{"a", "aaa", "ba"}, []string{"", "ab", "/a"}},
		{"*a**b", []string{"ab", "xa/yb", "aab", "a/a/b"}, []string{"/ab", "x/ab", "ba"}},
		{"**a*b", []string{"ab", "x/ab", "xaab", "a/ab"}, []string{"a/b", "ab/"}},
		{"[a-c1]?", []string{"b7", "a?", "c\xff", "1a"}, []string{"d7", "b/", "b", "-a", "2a"}},
		{"[ab-]", nil, []string{"a", "-", "[ab-]"}}, // not a pattern
		{"[a-c]", []string{"a", "b", "c"}, []string{"", "d", "-", "`", "ab"}},
		{"[!a]", []string{"!", "a"}, []string{"b", "^"}},
		{"[^a]", []string{"^", "a"}, []string{"b", "!"}},
		{"[*?]", []string{"*", "?"}, []string{"a", "", "**"}},
		{"[[]", []string{"["}, []string{"]", ""}},
		{"[\\]]", []string{"]"}, []string{"\\", "\\]"}},
		{"[\\\\]", []string{"\\"}, []string{"\\\\", ""}},
		{"[\\--/]", []string{"-", "."}, []string{"/", "\\", ","}},
		{"[\\a-\\c]", []string{"a", "b", "c"}, []string{"\\", "-"}},
		{"[/]", nil, []string{"/", "", "a", "[/]"}},
		{"[a/]", []string{"a"}, []string{"/"}},
		{"[\x00-\xff]", []string{"\x00", "a", "\xff", ".", "0"}, []string{"/", "", "ab"}},
		{"[\x80-\xff]", []string{"\x80", "\xff"}, []string{"\x7f", "a", "é"}},
		{"[a-\xff]", []string{"\xff", "a"}, []string{"`"}},
		{"[é]é", []string{"\xc3é", "\xa9é"}, []string{"éé", "é"}}, // a class of the two bytes
		{"]", []string{"]"}, []string{"", "[]"}},
		{"a-c]", []string{"a-c]"}, []string{"b]", "b"}},
		{"[a]]", []string{"a]"}, []string{"a", "]"}},
		{"\\*", []string{"*"}, []string{"a", "", "\\*", "\\"}},
		{"\\?\\[\\]\\\\\\a", []string{"?[]\\a"}, []string{"?[]\\", "x[]\\a"}},
		{"\\/", []string{"/"}, []string{"\\/", ""}},
		{"\\é", []string{"é"}, []string{"\xc3", "e"}},
		{"\\**", []string{"*", "*a"}, []string{"", "a", "*/"}},
		{"*\\*", []string{"*", "a*"}, []string{"", "a", "a/*"}},
		{"!a", []string{"!a"}, []string{"a", "b"}},
	} {
		for _, s := range c.yes {
			checkMatch(t, c.pattern, s, true)
		}
		for _, s := range c.no {
			checkMatch(t, c.pattern, s, false)
		}
	}
}

// P6.2: every element of one byte with every byte.
func TestMatchOfEveryByte(t *testing.T) {
	for c := range 256 {
		s := string([]byte{byte(c)})
		inside := c != '/'
		checkMatch(t, "?", s, inside)
		checkMatch(t, "*", s, inside)
		checkMatch(t, "**", s, true)
		checkMatch(t, "[\x00-\xff]", s, inside)
		checkMatch(t, "[\\"+s+"]", s, inside)
		checkMatch(t, "[\\"+s+"-\\"+s+"]", s, inside)
		checkMatch(t, "\\"+s, s, true)
		checkMatch(t, "[b-y]", s, 'b' <= c && c <= 'y')
		checkMatch(t, "[\x00-.0-`{-\xff]", s, inside && (c < 'a' || c > 'z'))
		if !strings.Contains("*?[\\", s) {
			checkMatch(t, s, s, true)
			checkMatch(t, s, string([]byte{byte(c) + 1}), false)
		}
	}
}

// checkPattern compares Valid, Match and Literal with translate, and checks that matching strings begin with the prefix.
func checkPattern(t *testing.T, pattern string, list []string) {
	t.Helper()
	expression, valid, prefix := translate(pattern)
	if got := glob.Valid(pattern); (got == api.OK) != valid || !valid && got != api.ErrSyntax {
		t.Errorf("Valid(%q) = %v, want %t", pattern, got, valid)
	}
	got, all := glob.Literal(pattern)
	if got != prefix {
		t.Errorf("Literal(%q) = %q, want %q", pattern, got, prefix)
	}
	if !valid {
		return
	}
	compiled := regexp.MustCompile(expression)
	for _, s := range list {
		want := compiled.MatchString(s)
		checkMatch(t, pattern, s, want)
		if want && !strings.HasPrefix(s, got) || all && want != (s == got) {
			t.Errorf("%q, with the prefix %q, %t, matches %q", pattern, got, all, s)
		}
	}
}

// P6.1, P6.2, P6.4 and P6.6: every pattern of up to four of these bytes, with many strings.
func TestAllShortPatterns(t *testing.T) {
	list := stringsOf(3, "a", "b", "/", "*", "-")
	list = append(list, "]", "[", "\\", "?", "a]", "-]", "a/b/", "*a*a", "//a/")
	for _, pattern := range stringsOf(4, "a", "/", "*", "?", "[", "]", "-", "\\") {
		checkPattern(t, pattern, list)
	}
}

// P6.1: every string of up to six of these bytes.
func TestValidOfAllShortStrings(t *testing.T) {
	for _, pattern := range stringsOf(6, "a", "c", "*", "[", "]", "-", "\\") {
		checkPattern(t, pattern, nil)
	}
}

// P6.2 and P6.6: random patterns of many elements, with random strings.
func TestLongPatterns(t *testing.T) {
	source := rand.New(rand.NewPCG(1, 6))
	join := func(most int, parts ...string) string {
		s := ""
		for range source.IntN(most) {
			s += parts[source.IntN(len(parts))]
		}
		return s
	}
	for range 3000 {
		pattern := join(12, "a", "a", "b", "/", "*", "**", "?", "[ab]", "[b-d/]", "\\a", "[/]")
		list := []string{pattern}
		for range 60 {
			list = append(list, join(16, "a", "a", "b", "c", "/"))
		}
		checkPattern(t, pattern, list)
	}
}

// P6.2: the states of these patterns fill several words of bits, and the ways to match them are too many to be tried one after the other.
func TestMatchOfLongStrings(t *testing.T) {
	repeat := strings.Repeat
	for _, n := range []int{1, 31, 32, 62, 63, 64, 65, 126, 127, 128, 129, 1000, 2047} {
		checkMatch(t, repeat("*a", n), repeat("a", n), true)
		checkMatch(t, repeat("*a", n), repeat("a", n-1), false)
		checkMatch(t, repeat("*a", n), repeat("ba", 2*n), true)
		checkMatch(t, repeat("*a", n), repeat("a", 2*n)+"b", false)
		checkMatch(t, repeat("*a", n), repeat("a", n)+"/a", false)
		checkMatch(t, repeat("a", n)+"**", repeat("a", n)+"/", true)
		checkMatch(t, repeat("a", n), repeat("a", n), true)
		checkMatch(t, repeat("a", n), repeat("a", n+1), false)
		checkMatch(t, repeat("?", n)+"b", repeat("a", n)+"b", true)
		checkMatch(t, repeat("?", n)+"b", repeat("a", n+1)+"b", false)
		checkMatch(t, "**"+repeat("?", n), repeat("/", n)+repeat("a", n), true)
		checkMatch(t, "**"+repeat("?", n), repeat("a", n)+"/"+repeat("a", n-1), false)
	}
	checkMatch(t, repeat("**a", 1000)+"b", repeat("a", 1<<16), false)
	checkMatch(t, repeat("**a", 1000), repeat("/a", 1<<16), true)
	checkMatch(t, repeat("*", api.MaxString), repeat("x", 1<<16), true)
	checkMatch(t, repeat("**", api.MaxString/2), repeat("/", 1<<16), true)
}

// P6.3
func TestAny(t *testing.T) {
	long := strings.Repeat("*", api.MaxString)
	for _, c := range []struct {
		patterns []string
		s        string
		want     bool
	}{
		{nil, "", false},
		{nil, "x", false},
		{[]string{"x"}, "x", true},
		{[]string{"x"}, "y", false},
		{[]string{"x", "y"}, "x", true},
		{[]string{"x", "y"}, "y", true},
		{[]string{"**", "!doc/**", "doc/a"}, "x", true},
		{[]string{"**", "!doc/**", "doc/a"}, "doc/a", true},
		{[]string{"**", "!doc/**", "doc/a"}, "doc/b", false},
		{[]string{"!doc/**", "**"}, "doc/b", true},
		{[]string{"**", "!x", "x", "!x"}, "x", false},
		{[]string{"**", "!x", "!x", "x"}, "x", true},
		{[]string{"!x"}, "x", false},
		{[]string{"!x"}, "y", false},
		{[]string{"!x"}, "!x", false},
		{[]string{"\\!x"}, "!x", true},
		{[]string{"\\!x"}, "x", false},
		{[]string{"[!]x"}, "!x", true},
		{[]string{"**", "!!x"}, "!x", false}, // an exception with the pattern !x
		{[]string{"**", "!!x"}, "x", true},
		{[]string{"**", "!"}, "", false}, // an exception with the empty pattern
		{[]string{"**", "!"}, "x", true},
		{[]string{"**", "!"}, "!", true},
		{[]string{""}, "", true},
		{[]string{"a", "["}, "a", true}, // from here on with patterns that are not valid
		{[]string{"["}, "[", false},
		{[]string{"![", "[", "!", "\\"}, "x", false},
		{[]string{"a", "![", "!\\", "![c-a]"}, "a", true},
		{[]string{long}, "x", true},
		{[]string{long + "*"}, "x", false},
		{[]string{"x", "!" + long}, "x", false}, // the pattern behind the mark is not too long
		{[]string{"x", "!" + long + "*"}, "x", true},
	} {
		if got := glob.Any(c.patterns, c.s); got != c.want {
			t.Errorf("Any(%.60q, %q) = %t", c.patterns, c.s, got)
		}
	}
}

// P6.3: lists of up to four of these patterns, by the last one that matches.
func TestAnyOfAllShortLists(t *testing.T) {
	for _, joined := range stringsOf(4, " **", " a", " !a", " !*", " [", " ![") {
		patterns := strings.Fields(joined)
		for _, s := range []string{"a", "b", "a/b", "!a", ""} {
			want := false
			for _, pattern := range patterns {
				if glob.Match(strings.TrimPrefix(pattern, "!"), s) {
					want = pattern[0] != '!'
				}
			}
			if got := glob.Any(patterns, s); got != want {
				t.Errorf("Any(%q, %q) = %t", patterns, s, got)
			}
		}
	}
}

// P6.4
func TestLiteral(t *testing.T) {
	long := strings.Repeat("a", api.MaxString)
	for _, c := range []struct {
		pattern, prefix string
		all             bool
	}{
		{"", "", true},
		{"abc", "abc", true},
		{"a/b", "a/b", true},
		{"a\\*b?c", "a*b", false},
		{"\\a\\\\\\[", "a\\[", true},
		{"]a-b!", "]a-b!", true},
		{"\\\xff\x00é", "\xff\x00é", true},
		{"abc*", "abc", false},
		{"abc**", "abc", false},
		{"abc?d", "abc", false},
		{"abc[d]", "abc", false}, // a class is not a literal element
		{"[a]bc", "", false},
		{"*", "", false},
		{"**a", "", false},
		{"?", "", false},
		{"ab[/]", "ab", false},
		{long, long, true},
		{long[1:] + "*", long[1:], false},
		{"ab[", "", false}, // not valid
		{"ab*[", "", false},
		{"ab\\", "", false},
		{long + "a", "", false},
	} {
		if prefix, all := glob.Literal(c.pattern); prefix != c.prefix || all != c.all {
			t.Errorf("Literal(%.40q) = %.40q, %t", c.pattern, prefix, all)
		}
	}
}

func checkOverlaps(t *testing.T, a, b string, want bool) {
	t.Helper()
	if got, back := glob.Overlaps(a, b), glob.Overlaps(b, a); got != want || back != want {
		t.Errorf("Overlaps(%.60q, %.60q) = %t, exchanged %t, want %t", a, b, got, back, want)
	}
}

// P6.5
func TestOverlaps(t *testing.T) {
	for _, c := range []struct {
		a, b string
		want bool
	}{
		{"", "", true},
		{"", "a", false},
		{"", "*", true},
		{"", "**", true},
		{"", "?", false},
		{"abc", "abc", true},
		{"abc", "abd", false},
		{"abc", "ab", false},
		{"a*c", "*b*", true},
		{"a/*", "a?b", false},
		{"a/*", "a*b", false},
		{"a/*", "a**b", true},
		{"*", "a/b", false},
		{"*", "**", true},
		{"*", "**/**", false},
		{"*/*", "**/**", true},
		{"*/*", "*/*/*", false},
		{"**/*", "*/*/*", true},
		{"a*", "*b", true},
		{"a*", "b*", false},
		{"*a", "*b", false},
		{"*a*", "*b*", true},
		{"a*b", "b*a", false},
		{"a*b", "a/b", false},
		{"a**b", "a/b", true},
		{"a*a", "a", false},
		{"a*a", "aa", true},
		{"a*/b*", "*c/*d", true},
		{"a*/b*", "*c*d", false},
		{"a*/b*", "*c**d", true},
		{"?", "[a-c]", true},
		{"??", "*", true},
		{"?", "??", false},
		{"?", "/", false},
		{"**", "/", true},
		{"[a-c]", "[c-d]", true},
		{"[a-b]", "[c-d]", false},
		{"[a-z]", "m", true},
		{"[a-c/]", "[\\--/]", false}, // only the slash is common
		{"[/]", "[/]", false},
		{"[/]", "**", false},
		{"a[/]*", "**", false},
		{"*[/]", "a[/]", false},
		{"\\*", "*", true},
		{"\\*", "a", false},
		{"\\*", "[*]", true},
		{"[\x00-\xff]", "\xff", true},
		{"[\x00-\x7f]", "\x80", false},
		{"é", "??", true},
		{"é", "?", false},
		{"release/**", "**/main", true},
		{"release/*/a", "release/b/?", true},
		{"!a", "a", false},
		{"[", "[", false},
		{"a\\", "**", false},
	} {
		checkOverlaps(t, c.a, c.b, c.want)
	}
}

// P6.5 and P6.8: every two patterns of up to three elements. If they overlap, they have a common string of at most four bytes.
func TestOverlapsOfAllShortPatterns(t *testing.T) {
	patterns := stringsOf(3, "a", "b", "/", "*", "**", "?", "[ab]", "[/]", "\\*")
	list := stringsOf(4, "a", "b", "/", "*", "c")
	matching := make([][]uint64, len(patterns)) // the matching strings of list, one bit each
	for i, pattern := range patterns {
		expression, _, _ := translate(pattern)
		compiled := regexp.MustCompile(expression)
		matching[i] = make([]uint64, len(list)/64+1)
		for j, s := range list {
			if compiled.MatchString(s) {
				matching[i][j/64] |= 1 << (j % 64)
			}
		}
	}
	for i, a := range patterns {
		for j, b := range patterns {
			want := false
			for w, word := range matching[i] {
				want = want || word&matching[j][w] != 0
			}
			if got := glob.Overlaps(a, b); got != want {
				t.Fatalf("Overlaps(%q, %q) = %t", a, b, got)
			}
		}
	}
}

// P6.5 and P6.8: a long pattern overlaps every pattern of a string that matches it.
func TestOverlapsOfMatchingStrings(t *testing.T) {
	source := rand.New(rand.NewPCG(2, 6))
	parts := []string{"a", "b", "/", "*", "**", "?", "[a-c]"}
	fill := func(pattern []string) string {
		s := ""
		for _, x := range pattern {
			switch some := []string{"", "c", "cc", "a", "c/c"}; x {
			case "*":
				s += some[source.IntN(4)]
			case "**":
				s += some[source.IntN(5)]
			case "?", "[a-c]":
				s += "b"
			default:
				s += x
			}
		}
		return s
	}
	for range 3000 {
		pattern := make([]string, source.IntN(40))
		for i := range pattern {
			pattern[i] = parts[source.IntN(len(parts))]
		}
		a, s := strings.Join(pattern, ""), fill(pattern)
		if !glob.Match(a, s) {
			t.Fatalf("Match(%q, %q) is false", a, s)
		}
		checkOverlaps(t, a, a, true)
		checkOverlaps(t, a, s, true)
		checkOverlaps(t, a, "**"+s[len(s)/2:], true)
		checkOverlaps(t, a, s[:len(s)/2]+"**", true)
		checkOverlaps(t, a, s+"x", glob.Match(a, s+"x"))
		checkOverlaps(t, a+"x", s+"y", false)
	}
}

// P6.5: the product of these patterns has millions of states.
func TestOverlapsOfLongPatterns(t *testing.T) {
	repeat := strings.Repeat
	checkOverlaps(t, repeat("*a", 1300)+"b", repeat("*a", 1300)+"c", false)
	checkOverlaps(t, repeat("*a", 1300)+"*", repeat("*b", 1300)+"*", true)
	checkOverlaps(t, "**"+repeat("a", 2000)+"b", "**"+repeat("a", 2000)+"c", false)
	checkOverlaps(t, "**"+repeat("a", 4000)+"**", "**"+repeat("b", 4000)+"**", true)
	checkOverlaps(t, repeat("*a", 2048), repeat("*b", 2048), false)
	checkOverlaps(t, repeat("*", api.MaxString), repeat("**", api.MaxString/2), true)
	checkOverlaps(t, repeat("*/", 2048), repeat("?/", 2048), true)
	checkOverlaps(t, repeat("*/", 2048), repeat("?/", 2047)+"?", false)
	checkOverlaps(t, repeat("a", api.MaxString), repeat("?", api.MaxString), true)
	checkOverlaps(t, repeat("a", api.MaxString), repeat("?", api.MaxString-1), false)
}

// P6.7
func TestEscapedStringsMatchOnlyThemselves(t *testing.T) {
	var bytes []byte
	for c := range 256 {
		bytes = append(bytes, byte(c))
	}
	list := []string{"", "*", "**", "?", "[a]", "\\", "\\\\", "!a", "a/b", "é", string(bytes), strings.Repeat("/", api.MaxString/2)}
	list = append(list, stringsOf(2, "a", "/", "*", "[", "]", "\\", "-", "\x00", "\xff")...)
	for _, s := range list {
		pattern := escaped(s)
		checkMatch(t, pattern, s, true)
		for _, other := range append(slices.Clone(list), s+"a", s+s, "a"+s) {
			checkMatch(t, pattern, other, other == s)
		}
		if prefix, all := glob.Literal(pattern); prefix != s || !all {
			t.Errorf("Literal(%.40q) = %.40q, %t", pattern, prefix, all)
		}
	}
	checkInvalid(t, escaped(strings.Repeat("/", api.MaxString/2+1)), api.ErrTooLong)
}

// P6.1, P6.2, P6.4 and P6.8
func FuzzMatch(f *testing.F) {
	f.Add("a*/[b-c]?**", "a/bcd/")
	f.Add("[\\--a]\\**", "a*")
	f.Fuzz(func(t *testing.T, pattern, s string) {
		if len(pattern) > 100 || strings.ContainsFunc(pattern+s, func(r rune) bool { return r > 127 }) {
			return
		}
		checkPattern(t, pattern, []string{s})
		if glob.Match(pattern, s) {
			checkOverlaps(t, pattern, pattern, true)
		}
		if len(s) < 100 {
			checkOverlaps(t, pattern, escaped(s), glob.Match(pattern, s))
		}
	})
}
