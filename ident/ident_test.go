package ident_test

import (
	"cmp"
	"math/big"
	"math/rand/v2"
	"slices"
	"strings"
	"testing"

	"pipeline/api"
	"pipeline/ident"
)

var longest = strings.Repeat("n", api.MaxName)

// P4.1
func TestName(t *testing.T) {
	for _, s := range []string{
		"a", "z", "0", "9", "build-2", "a.b", "a_b", "a-", "a.", "a_", "0-", "a..b", "1.2.3", "z--__..9", longest,
		"0" + strings.Repeat(".", api.MaxName-1),
	} {
		if !ident.Name(s) {
			t.Errorf("Name(%q) is false", s)
		}
	}
	for _, s := range []string{
		"", "-a", ".a", "_a", "-", ".", "..", "_", "A", "aB", "a b", " a", "a ", "a/b", "/", "a\n", "\x00", "a\x00",
		"é", "aé", "a\xff", "a:", "a,", "a`", "a{", "a@", longest + "n", strings.Repeat("n", 1<<20),
	} {
		if ident.Name(s) {
			t.Errorf("Name(%q) is true", s)
		}
	}
}

// P4.1: each byte alone, as the first, as a middle and as the last one.
func TestNameOfEveryByte(t *testing.T) {
	const begins = "abcdefghijklmnopqrstuvwxyz0123456789"
	for c := range 256 {
		s := string([]byte{byte(c)})
		begin, inside := strings.Contains(begins, s), strings.Contains(begins+"_-.", s)
		if ident.Name(s) != begin || ident.Name(s+"a") != begin || ident.Name("a"+s+"a") != inside || ident.Name("a"+s) != inside {
			t.Errorf("Name with the byte %d", c)
		}
	}
}

func checkPath(t *testing.T, parts []string, path string, e api.Errno) {
	t.Helper()
	gotPath, gotE := ident.Path(parts...)
	if gotPath != path || gotE != e {
		t.Errorf("Path(%q) = %q, %v, want %q, %v", parts, gotPath, gotE, path, e)
	}
}

func checkParts(t *testing.T, path string, parts []string, e api.Errno) {
	t.Helper()
	gotParts, gotE := ident.Parts(path)
	if !slices.Equal(gotParts, parts) || gotE != e {
		t.Errorf("Parts(%q) = %q, %v, want %q, %v", path, gotParts, gotE, parts, e)
	}
}

// repeated returns count times the part and then the rest.
func repeated(count int, part string, rest ...string) []string {
	return append(slices.Repeat([]string{part}, count), rest...)
}

// P4.2 and P4.7
func TestPathsAndTheirParts(t *testing.T) {
	for _, parts := range [][]string{
		{"a"},
		{"a", "b.c"},
		{"a", "b", "c"},
		{"a", "a", "a"},
		{"0", "build-2", "z_"},
		{longest},
		repeated(7, longest, longest[:57]),    // 512 bytes
		repeated(6, longest, longest, "a-"),   // 457 bytes
		repeated(256, "a")[:255],              // 509 bytes
		repeated(255, "a", "bc"),              // 512 bytes
		repeated(7, longest, "a", "b.c", "d"), // 462 bytes
	} {
		path := strings.Join(parts, "/")
		checkPath(t, parts, path, api.OK)
		checkParts(t, path, parts, api.OK)
	}
}

// P4.2
func TestPathErrors(t *testing.T) {
	for _, c := range []struct {
		name  string
		parts []string
		e     api.Errno
	}{
		{"nothing", nil, api.ErrInvalid},
		{"no parts", []string{}, api.ErrInvalid},
		{"an empty part", []string{""}, api.ErrInvalid},
		{"an empty last part", []string{"a", ""}, api.ErrInvalid},
		{"an empty first part", []string{"", "a"}, api.ErrInvalid},
		{"an empty part in the middle", []string{"a", "", "b"}, api.ErrInvalid},
		{"a part with a slash", []string{"a/b"}, api.ErrInvalid},
		{"a capital", []string{"a", "B", "c"}, api.ErrInvalid},
		{"a long part", []string{"a", longest + "n"}, api.ErrInvalid},
		{"513 bytes", repeated(7, longest, longest[:58]), api.ErrTooLong},
		{"513 bytes in short parts", repeated(257, "a"), api.ErrTooLong},
		{"519 bytes", repeated(8, longest), api.ErrTooLong},
		{"many parts", repeated(100000, "a"), api.ErrTooLong},
		{"an invalid part beyond the limit", repeated(100000, "a", "-"), api.ErrInvalid},
		{"a part that is too long itself", []string{strings.Repeat("a", 1000)}, api.ErrInvalid},
	} {
		if got, e := ident.Path(c.parts...); got != "" || e != c.e {
			t.Errorf("%s: Path = %q, %v, want %v", c.name, got, e, c.e)
		}
	}
}

// P4.2
func TestPartsErrors(t *testing.T) {
	for _, s := range []string{
		"", "/", "//", "a/", "/a", "a//b", "a/b/", "A", "a/B", "a/-b", "a/.", "a/..", "a b", "a/b\n", "a\\b", "é",
		longest + "n", "a/" + longest + "n/b", strings.Repeat("/", api.MaxPath), strings.Repeat("a", api.MaxPath),
	} {
		checkParts(t, s, nil, api.ErrInvalid)
	}
	for _, s := range []string{
		strings.Join(repeated(257, "a"), "/"), // 513 bytes, and a path but for that
		strings.Repeat("/", api.MaxPath+1),
		strings.Repeat("A", api.MaxPath+1),
		strings.Repeat("a", 1<<20),
	} {
		checkParts(t, s, nil, api.ErrTooLong)
	}
}

// P4.7: of all short strings, exactly those that are paths have parts, and these have this path.
func TestPathsAreUnique(t *testing.T) {
	paths := 0
	for _, s := range words("a-/B.", 6) {
		parts, e := ident.Parts(s)
		if e != api.OK {
			if len(parts) > 0 || e != api.ErrInvalid {
				t.Errorf("Parts(%q) = %q, %v", s, parts, e)
			}
			// Cut at its slashes, s has an invalid part.
			checkPath(t, strings.Split(s, "/"), "", api.ErrInvalid)
			continue
		}
		paths++
		checkPath(t, parts, s, api.OK)
	}
	if paths == 0 {
		t.Error("there was no path")
	}
}

// P4.3
func TestParent(t *testing.T) {
	long := strings.Join(repeated(255, "a"), "/")
	for _, c := range []struct {
		path, parent string
		has          bool
	}{
		{"a/b", "a", true},
		{"a/b/c", "a/b", true},
		{"a.b/c-d/e", "a.b/c-d", true},
		{"a/a/a", "a/a", true},
		{long + "/bc", long, true},
		{"a", "", false},
		{longest, "", false},
		{"", "", false},
		{"/", "", false},
		{"/a", "", false},
		{"a/", "", false},
		{"a//b", "", false},
		{"a/b/", "", false},
		{"A/b", "", false},
		{"a/B", "", false},
		{"a/b c", "", false},
		{long + "/bcd", "", false}, // 513 bytes
	} {
		if got, has := ident.Parent(c.path); got != c.parent || has != c.has {
			t.Errorf("Parent(%q) = %q, %t, want %q, %t", c.path, got, has, c.parent, c.has)
		}
	}
}

// P4.4
func TestWithin(t *testing.T) {
	long := strings.Join(repeated(255, "a"), "/")
	for _, c := range []struct {
		path, dir string
		want      bool
	}{
		{"a", "a", true},
		{"a/b", "a", true},
		{"a/b/c", "a", true},
		{"a/b/c", "a/b", true},
		{"a/b/c", "a/b/c", true},
		{long + "/bc", long, true},
		{long + "/bc", long + "/bc", true},
		{"ab", "a", false},
		{"a/bc", "a/b", false},
		{"a.b", "a", false},
		{"a", "a/b", false},
		{"a", "ab", false},
		{"b/a", "a", false},
		{"a/b/c", "a/c", false},
		{"a/b/c", "b", false},
		{"a", "", false},
		{"", "", false},
		{"", "a", false},
		{"/", "/", false},
		{"/a", "", false},
		{"a/", "a", false},
		{"a/b", "a/", false},
		{"a/b/", "a", false},
		{"a//b", "a", false},
		{"a/B", "a", false},
		{"A/b", "A", false},
		{"A", "A", false},
		{long + "/bcd", long, false}, // 513 bytes
		{long + "/bcd", long + "/bcd", false},
	} {
		if got := ident.Within(c.path, c.dir); got != c.want {
			t.Errorf("Within(%q, %q) = %t", c.path, c.dir, got)
		}
	}
}

// P4.4
func TestWithinComparesParts(t *testing.T) {
	all := words("ab/", 5)
	for _, path := range all {
		parts, e := ident.Parts(path)
		for _, dir := range all {
			first, f := ident.Parts(dir)
			want := e == api.OK && f == api.OK && len(first) <= len(parts) && slices.Equal(first, parts[:len(first)])
			if got := ident.Within(path, dir); got != want {
				t.Errorf("Within(%q, %q) = %t", path, dir, got)
			}
		}
	}
}

// words returns all strings of at most length bytes of the alphabet.
func words(alphabet string, length int) []string {
	all := []string{""}
	last := all
	for range length {
		var next []string
		for _, s := range last {
			for i := range len(alphabet) {
				next = append(next, s+alphabet[i:i+1])
			}
		}
		all = append(all, next...)
		last = next
	}
	return all
}

func checkCompare(t *testing.T, a, b string, want int) {
	t.Helper()
	if got := ident.Compare(a, b); got != want {
		t.Errorf("Compare(%q, %q) = %d, want %d", a, b, got, want)
	}
	if got := ident.Compare(b, a); got != -want {
		t.Errorf("Compare(%q, %q) = %d, want %d", b, a, got, -want)
	}
}

// P4.5
func TestCompareExamples(t *testing.T) {
	zeros := strings.Repeat("0", 1000)
	for _, c := range []struct{ less, greater string }{
		{"", "a"},
		{"", "0"},
		{"", "\x00"},
		{"a", "b"},
		{"a", "aa"},
		{"B", "a"},
		{"test.2", "test.10"},
		{"a1", "a01"},
		{"a01", "a2"},
		{"a1", "a001"},
		{"a01", "a001"},
		{"0", "00"},
		{"00", "1"},
		{"00", "01"},
		{"9", "10"},
		{"09", "10"},
		{"9", "010"},
		{"99", "100"},
		{"12", "13"},
		{"a1", "a1b"},
		{"a1b", "a01"},  // the run 1 is less than the run 01
		{"a1z", "a01a"}, // whatever follows
		{"1.2", "1.10"}, // the second runs decide
		{"1.2", "01.1"}, // the first runs decide
		{"a9b", "a10a"},
		{"a10.9", "a10.10"},
		{"1", "a"},
		{"-1", "1"}, // a byte below the digits
		{"/", "0"},
		{"9", ":"},   // a byte above the digits
		{"1/", "10"}, // runs are compared as a whole
		{"1:", "10"},
		{"10", "a"},
		{"a-", "a0"},
		{"a99", "a:"},
		{"z", "é"}, // bytes count as numbers from 0 to 255
		{"é", "\xff"},
		{"\x7f", "\x80"},
		{"a١", "a٢"}, // digits of other scripts are no digits
		{"18446744073709551615", "18446744073709551616"},
		{"18446744073709551616", "18446744073709551617"},
		{"9223372036854775807", "9223372036854775808"},
		{"0" + "18446744073709551616", "18446744073709551617"},
		{zeros, "1"},
		{zeros + "1", "2"},
		{"1", zeros + "1"},
		{strings.Repeat("9", 1000), "1" + zeros},
		{"1" + zeros, "1" + zeros + "a"},
	} {
		checkCompare(t, c.less, c.greater, -1)
		checkCompare(t, c.less, c.less, 0)
		checkCompare(t, c.greater, c.greater, 0)
	}
}

// element is an element of a string; a run has a value.
type element struct {
	text  string
	value *big.Int
}

func elements(s string) []element {
	var list []element
	for s != "" {
		rest := strings.TrimLeft(s, "0123456789")
		e := element{text: s[:len(s)-len(rest)]}
		if e.text == "" {
			e.text, rest = s[:1], s[1:]
		} else {
			e.value, _ = new(big.Int).SetString(e.text, 10)
		}
		list, s = append(list, e), rest
	}
	return list
}

func compareElements(a, b element) int {
	if a.value == nil || b.value == nil {
		return cmp.Compare(a.text[0], b.text[0])
	}
	return cmp.Or(a.value.Cmp(b.value), cmp.Compare(len(a.text), len(b.text)))
}

// P4.5
func TestCompareFollowsItsDefinition(t *testing.T) {
	const alphabet = "0000123899ab-./:~\x80\xff"
	source := rand.New(rand.NewPCG(1, 2))
	random := func(length int) string {
		b := make([]byte, length)
		for i := range b {
			b[i] = alphabet[source.IntN(len(alphabet))]
		}
		return string(b)
	}
	for range 50000 {
		common := random(source.IntN(30))
		a, b := common+random(source.IntN(30)), common+random(source.IntN(30))
		want := slices.CompareFunc(elements(a), elements(b), compareElements)
		if got := ident.Compare(a, b); got != want {
			t.Fatalf("Compare(%q, %q) = %d, want %d", a, b, got, want)
		}
	}
}

// P4.8: all strings of an alphabet stand in one order, in which each pair of them compares as its places do.
func TestOrderIsTotal(t *testing.T) {
	for _, alphabet := range []string{"019a/", "0/:\xff2"} {
		all := words(alphabet, 4)
		slices.SortFunc(all, ident.Compare)
		for i, a := range all {
			for k, b := range all {
				if got := ident.Compare(a, b); got != cmp.Compare(i, k) {
					t.Fatalf("Compare(%q, %q) = %d at the places %d and %d", a, b, got, i, k)
				}
			}
		}
	}
}

// P4.6
func TestSorted(t *testing.T) {
	for _, c := range []struct{ names, want []string }{
		{nil, nil},
		{[]string{}, nil},
		{[]string{"a"}, []string{"a"}},
		{[]string{"b", "a"}, []string{"a", "b"}},
		{[]string{"a", "a", "a"}, []string{"a"}},
		{[]string{"t10", "t9", "t9", "t01", "t1"}, []string{"t1", "t01", "t9", "t10"}},
		{[]string{"b", "a", "b", "", "a"}, []string{"", "a", "b"}},
		{[]string{"1", "01", "001", "1", "01"}, []string{"1", "01", "001"}},
		{[]string{"a/b", "-", "A B", "\xff", "é", ""}, []string{"", "-", "A B", "a/b", "é", "\xff"}},
	} {
		before := slices.Clone(c.names)
		got := ident.Sorted(c.names)
		if !slices.Equal(got, c.want) {
			t.Errorf("Sorted(%q) = %q, want %q", c.names, got, c.want)
		}
		if !slices.Equal(c.names, before) {
			t.Errorf("Sorted changed its argument from %q to %q", before, c.names)
		}
	}
}

// P4.6
func TestSortedContainsEachNameOnce(t *testing.T) {
	all := words("01a.", 4)
	names := slices.Concat(all, all)
	source := rand.New(rand.NewPCG(3, 4))
	source.Shuffle(len(names), func(i, k int) { names[i], names[k] = names[k], names[i] })
	got := ident.Sorted(names)
	if !ident.Ascending(got) || len(got) != len(all) {
		t.Errorf("Sorted returned %d names of %d", len(got), len(all))
	}
	for _, s := range all {
		if !slices.Contains(got, s) {
			t.Errorf("Sorted lost %q", s)
		}
	}
}

// P4.6
func TestAscending(t *testing.T) {
	for _, names := range [][]string{
		nil, {}, {""}, {"b"}, {"a", "b"}, {"", "a"}, {"test.2", "test.10"}, {"a1", "a01", "a2"}, {"A", "a", "a/b", "é"},
	} {
		if !ident.Ascending(names) {
			t.Errorf("Ascending(%q) is false", names)
		}
	}
	for _, names := range [][]string{
		{"a", "a"}, {"", ""}, {"b", "a"}, {"a", ""}, {"a", "b", "b"}, {"a", "c", "b"}, {"b", "a", "c"},
		{"test.10", "test.2"}, {"a01", "a1"}, {"a", "b", "c", "d", "d"},
	} {
		if ident.Ascending(names) {
			t.Errorf("Ascending(%q) is true", names)
		}
	}
}

// The rule R5: results share no memory with arguments, which are not changed.
func TestMemoryIsNotShared(t *testing.T) {
	names := []string{"a", "b", "c", "c", "a"}
	sorted := ident.Sorted(names[:3])
	sorted[0] = "x"
	_ = append(sorted, "y")
	if !slices.Equal(names, []string{"a", "b", "c", "c", "a"}) {
		t.Errorf("Sorted shares memory: %q", names)
	}
	if path, e := ident.Path(names[:2]...); path != "a/b" || e != api.OK || !slices.Equal(names, []string{"a", "b", "c", "c", "a"}) {
		t.Errorf("Path = %q, %v, and the parts are %q", path, e, names)
	}
	first, _ := ident.Parts("a/b")
	second, _ := ident.Parts("a/b")
	first[0] = "x"
	if !slices.Equal(second, []string{"a", "b"}) {
		t.Errorf("two results of Parts share memory: %q", second)
	}
}
