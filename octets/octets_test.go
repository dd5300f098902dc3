package octets_test

import (
	"bytes"
	"math"
	"math/rand/v2"
	"slices"
	"strings"
	"testing"

	"pipeline/api"
	"pipeline/octets"
)

func integer(n int) api.Field { return api.Field{Kind: api.FInt, Int: n} }

func text(s string) api.Field { return api.Field{Kind: api.FString, Str: s} }

func list(elements ...api.Field) api.Field { return api.Field{Kind: api.FList, List: elements} }

// nested returns a field that is inside of depth - 1 lists.
func nested(depth int, f api.Field) api.Field {
	for range depth - 1 {
		f = list(f)
	}
	return f
}

func same(a, b api.Field) bool {
	return a.Kind == b.Kind && a.Int == b.Int && a.Str == b.Str && slices.EqualFunc(a.List, b.List, same)
}

// ones returns count bytes 255 and then the bytes of rest.
func ones(count int, rest ...byte) []byte {
	return append(bytes.Repeat([]byte{255}, count), rest...)
}

// P2.1
func TestUintExamples(t *testing.T) {
	for _, c := range []struct {
		n    uint64
		want []byte
	}{
		{0, []byte{0}},
		{1, []byte{1}},
		{127, []byte{127}},
		{128, []byte{128, 1}},
		{300, []byte{172, 2}},
		{16383, []byte{255, 127}},
		{16384, []byte{128, 128, 1}},
		{1<<63 - 1, ones(8, 127)},
		{1 << 63, append(bytes.Repeat([]byte{128}, 9), 1)},
		{math.MaxUint64, ones(9, 1)},
	} {
		if got := octets.PutUint(c.n); !bytes.Equal(got, c.want) {
			t.Errorf("PutUint(%d) = %v, want %v", c.n, got, c.want)
		}
		checkTakeUint(t, c.want, c.n, len(c.want), api.OK)
		checkTakeUint(t, append(c.want, 0, 255), c.n, len(c.want), api.OK)
	}
}

func checkTakeUint(t *testing.T, b []byte, n uint64, size int, e api.Errno) {
	t.Helper()
	gotN, gotSize, gotE := octets.TakeUint(b)
	if gotN != n || gotSize != size || gotE != e {
		t.Errorf("TakeUint(%v) = %d, %d, %v, want %d, %d, %v", b, gotN, gotSize, gotE, n, size, e)
	}
}

// P2.1
func TestTakeUintReturnsTheFirstError(t *testing.T) {
	for _, c := range []struct {
		b []byte
		e api.Errno
	}{
		{nil, api.ErrTruncated},
		{[]byte{}, api.ErrTruncated},
		{[]byte{128}, api.ErrTruncated},
		{[]byte{255, 255}, api.ErrTruncated},
		{ones(9), api.ErrTruncated},
		{ones(9, 2), api.ErrRange},
		{ones(9, 127), api.ErrRange},
		{ones(9, 128), api.ErrRange},
		{ones(10), api.ErrRange},
		{ones(9, 129, 0), api.ErrRange},
		{ones(20), api.ErrRange},
		{[]byte{128, 0}, api.ErrSyntax},
		{[]byte{172, 130, 0}, api.ErrSyntax},
		{[]byte{128, 128, 0}, api.ErrSyntax},
		{ones(9, 0), api.ErrSyntax},
		{[]byte{128, 0, 255}, api.ErrSyntax},
	} {
		checkTakeUint(t, c.b, 0, 0, c.e)
	}
}

// P2.1
func TestUintRoundTrip(t *testing.T) {
	source := rand.New(rand.NewPCG(3, 4))
	for range 20000 {
		n := source.Uint64() >> source.IntN(64)
		b := octets.PutUint(n)
		checkTakeUint(t, b, n, len(b), api.OK)
		for end := range len(b) {
			checkTakeUint(t, b[:end], 0, 0, api.ErrTruncated)
		}
	}
}

// P2.1: only the shortest form is accepted.
func TestTakeUintAcceptsWhatPutUintReturns(t *testing.T) {
	for _, first := range []byte{0, 1, 127, 128, 129, 255} {
		for second := range 256 {
			for _, third := range []byte{0, 1, 127, 128, 255} {
				b := []byte{first, byte(second), third}
				n, size, e := octets.TakeUint(b)
				if e == api.OK && !bytes.Equal(octets.PutUint(n), b[:size]) {
					t.Errorf("TakeUint(%v) = %d, %d", b, n, size)
				}
			}
		}
	}
}

// P2.2
func TestIntExamples(t *testing.T) {
	for _, c := range []struct {
		n    int
		want []byte
	}{
		{0, []byte{0}},
		{-1, []byte{1}},
		{1, []byte{2}},
		{-2, []byte{3}},
		{2, []byte{4}},
		{63, []byte{126}},
		{-64, []byte{127}},
		{64, []byte{128, 1}},
		{-65, []byte{129, 1}},
		{math.MaxInt, append([]byte{254}, ones(8, 1)...)},
		{math.MinInt, ones(9, 1)},
	} {
		if got := octets.PutInt(c.n); !bytes.Equal(got, c.want) {
			t.Errorf("PutInt(%d) = %v, want %v", c.n, got, c.want)
		}
		checkTakeInt(t, c.want, c.n, len(c.want), api.OK)
		checkTakeInt(t, append(c.want, 1), c.n, len(c.want), api.OK)
	}
}

func checkTakeInt(t *testing.T, b []byte, n, size int, e api.Errno) {
	t.Helper()
	gotN, gotSize, gotE := octets.TakeInt(b)
	if gotN != n || gotSize != size || gotE != e {
		t.Errorf("TakeInt(%v) = %d, %d, %v, want %d, %d, %v", b, gotN, gotSize, gotE, n, size, e)
	}
}

// P2.2
func TestTakeIntReturnsTheErrorsOfTakeUint(t *testing.T) {
	checkTakeInt(t, nil, 0, 0, api.ErrTruncated)
	checkTakeInt(t, []byte{129}, 0, 0, api.ErrTruncated)
	checkTakeInt(t, ones(9, 2), 0, 0, api.ErrRange)
	checkTakeInt(t, ones(10), 0, 0, api.ErrRange)
	checkTakeInt(t, []byte{129, 0}, 0, 0, api.ErrSyntax)
}

// P2.2
func TestIntRoundTrip(t *testing.T) {
	source := rand.New(rand.NewPCG(5, 6))
	for range 20000 {
		n := int(source.Uint64()) >> source.IntN(64)
		b := octets.PutInt(n)
		checkTakeInt(t, b, n, len(b), api.OK)
	}
}

// P2.3
func TestStringExamples(t *testing.T) {
	long := strings.Repeat("x", 300)
	for _, c := range []struct {
		s    string
		want []byte
	}{
		{"", []byte{0}},
		{"ab", []byte{2, 97, 98}},
		{"\x00\xff", []byte{2, 0, 255}},
		{"é", []byte{2, 195, 169}},
		{long, append([]byte{172, 2}, long...)},
	} {
		if got := octets.PutString(c.s); !bytes.Equal(got, c.want) {
			t.Errorf("PutString(%q) = %v, want %v", c.s, got, c.want)
		}
		checkTakeString(t, c.want, c.s, len(c.want), api.OK)
		checkTakeString(t, append(c.want, 'z'), c.s, len(c.want), api.OK)
		for end := range len(c.want) {
			checkTakeString(t, c.want[:end], "", 0, api.ErrTruncated)
		}
	}
}

func checkTakeString(t *testing.T, b []byte, s string, size int, e api.Errno) {
	t.Helper()
	gotS, gotSize, gotE := octets.TakeString(b)
	if gotS != s || gotSize != size || gotE != e {
		t.Errorf("TakeString(%v) = %q, %d, %v, want %q, %d, %v", b, gotS, gotSize, gotE, s, size, e)
	}
}

// P2.3
func TestTakeStringErrors(t *testing.T) {
	checkTakeString(t, nil, "", 0, api.ErrTruncated)
	checkTakeString(t, []byte{3, 97, 98}, "", 0, api.ErrTruncated)
	checkTakeString(t, ones(8, 127, 97), "", 0, api.ErrTruncated)                           // length MaxInt
	checkTakeString(t, append(octets.PutUint(1<<63), 97), "", 0, api.ErrTruncated)          // a length that is no int
	checkTakeString(t, append(octets.PutUint(math.MaxUint64), 97), "", 0, api.ErrTruncated) // -1 as an int
	checkTakeString(t, ones(9, 2, 97), "", 0, api.ErrRange)
	checkTakeString(t, []byte{129, 0, 97}, "", 0, api.ErrSyntax)
}

// P2.4
func TestValid(t *testing.T) {
	deepest, tooDeep := nested(api.MaxNest, integer(1)), nested(api.MaxNest+1, integer(1))
	wrong := api.Field{Kind: 3}
	for _, c := range []struct {
		name string
		f    api.Field
		e    api.Errno
	}{
		{"zero", api.Field{}, api.OK},
		{"integer", integer(-5), api.OK},
		{"empty string", text(""), api.OK},
		{"string", text("a"), api.OK},
		{"empty list", list(), api.OK},
		{"list", list(integer(1), text("a"), list(list())), api.OK},
		{"integer, list not nil", api.Field{Kind: api.FInt, Int: 1, List: []api.Field{}}, api.OK},
		{"string, list not nil", api.Field{Kind: api.FString, Str: "a", List: []api.Field{}}, api.OK},
		{"kind 3", wrong, api.ErrInvalid},
		{"kind -1", api.Field{Kind: -1}, api.ErrInvalid},
		{"kind 256", api.Field{Kind: 256}, api.ErrInvalid},
		{"integer with string", api.Field{Kind: api.FInt, Str: "a"}, api.ErrInvalid},
		{"integer with list", api.Field{Kind: api.FInt, List: []api.Field{{}}}, api.ErrInvalid},
		{"string with integer", api.Field{Kind: api.FString, Int: 1}, api.ErrInvalid},
		{"string with list", api.Field{Kind: api.FString, List: []api.Field{{}}}, api.ErrInvalid},
		{"list with integer", api.Field{Kind: api.FList, Int: 1}, api.ErrInvalid},
		{"list with string", api.Field{Kind: api.FList, Str: "a"}, api.ErrInvalid},
		{"invalid element", list(integer(1), wrong), api.ErrInvalid},
		{"invalid element, deep", nested(api.MaxNest, wrong), api.ErrInvalid},
		{"deepest", deepest, api.OK},
		{"deepest empty list", nested(api.MaxNest, list()), api.OK},
		{"too deep", tooDeep, api.ErrDepth},
		{"too deep empty list", nested(api.MaxNest+1, list()), api.ErrDepth},
		{"depth is found before the kind", nested(api.MaxNest+1, wrong), api.ErrDepth},
		{"much too deep", nested(10*api.MaxNest, wrong), api.ErrDepth},
		{"first the invalid element", list(wrong, tooDeep), api.ErrInvalid},
		{"first the deep element", list(tooDeep, wrong), api.ErrDepth},
		{"the list before its elements", api.Field{Kind: api.FList, Int: 1, List: []api.Field{tooDeep}}, api.ErrInvalid},
	} {
		if e := octets.Valid(c.f); e != c.e {
			t.Errorf("%s: Valid = %v, want %v", c.name, e, c.e)
		}
	}
}

// cyclic returns a list that is an element of itself.
func cyclic() api.Field {
	elements := make([]api.Field, 2)
	elements[0], elements[1] = integer(1), list(elements...)
	return list(elements...)
}

// P2.4 and P2.5: deeper fields are not examined.
func TestCyclicField(t *testing.T) {
	if e := octets.Valid(cyclic()); e != api.ErrDepth {
		t.Errorf("Valid = %v", e)
	}
	if b := octets.Record(cyclic()); !bytes.Equal(b, []byte{1, 0, 0}) {
		t.Errorf("Record = %v", b)
	}
}

// P2.5 and P2.6
func TestRecordExamples(t *testing.T) {
	many := make([]api.Field, 200)
	for _, c := range []struct {
		name   string
		fields []api.Field
		want   []byte
	}{
		{"no fields", nil, []byte{0}},
		{"zero", []api.Field{{}}, []byte{1, 0, 0}},
		{"integers", []api.Field{integer(-1), integer(150)}, []byte{2, 0, 1, 0, 172, 2}},
		{"strings", []api.Field{text(""), text("ab")}, []byte{2, 1, 0, 1, 2, 97, 98}},
		{"lists", []api.Field{list(), list(list())}, []byte{2, 2, 0, 2, 1, 2, 0}},
		{"example", []api.Field{integer(5), list(text("a"))}, []byte{2, 0, 10, 2, 1, 1, 1, 97}},
		{"many fields", many, append([]byte{200, 1}, make([]byte, 400)...)},
		{"many elements", []api.Field{list(many...)}, append([]byte{1, 2, 200, 1}, make([]byte, 400)...)},
	} {
		if got := octets.Record(c.fields...); !bytes.Equal(got, c.want) {
			t.Errorf("%s: Record = %v, want %v", c.name, got, c.want)
		}
		got, e := octets.Fields(c.want)
		if e != api.OK || !slices.EqualFunc(got, c.fields, same) {
			t.Errorf("%s: Fields = %v, %v", c.name, got, e)
		}
	}
}

// P2.5
func TestRecordWritesFieldsThatAreNotValidAsZero(t *testing.T) {
	for _, f := range []api.Field{
		{Kind: 3},
		{Kind: -1, Int: 7},
		{Kind: api.FInt, Int: 7, Str: "a"},
		{Kind: api.FString, Int: 7, Str: "a"},
		{Kind: api.FList, Str: "a", List: []api.Field{integer(7)}},
		list(integer(7), list(api.Field{Kind: 3})),
		nested(api.MaxNest+1, integer(7)),
	} {
		want := []byte{3, 0, 18, 0, 0, 1, 1, 97}
		if got := octets.Record(integer(9), f, text("a")); !bytes.Equal(got, want) {
			t.Errorf("Record with %v = %v, want %v", f, got, want)
		}
	}
}

// P2.6
func TestFieldsReturnsTheFirstError(t *testing.T) {
	deep := bytes.Repeat([]byte{2, 1}, api.MaxNest) // lists of one element, one inside the other
	for _, c := range []struct {
		name string
		b    []byte
		e    api.Errno
	}{
		{"nothing", nil, api.ErrTruncated},
		{"number of fields: truncated", []byte{129}, api.ErrTruncated},
		{"number of fields: range", ones(9, 2), api.ErrRange},
		{"number of fields: syntax", []byte{129, 0, 0, 0}, api.ErrSyntax},
		{"no kind", []byte{1}, api.ErrTruncated},
		{"no second kind", []byte{2, 0, 0}, api.ErrTruncated},
		{"huge number of fields", append(octets.PutUint(math.MaxUint64), 0, 0), api.ErrTruncated},
		{"kind 3", []byte{1, 3}, api.ErrSyntax},
		{"kind 255", []byte{1, 255, 0}, api.ErrSyntax},
		{"second kind", []byte{2, 0, 0, 3}, api.ErrSyntax},
		{"integer: truncated", []byte{1, 0}, api.ErrTruncated},
		{"integer: range", append([]byte{1, 0}, ones(9, 2)...), api.ErrRange},
		{"integer: syntax", []byte{1, 0, 128, 0}, api.ErrSyntax},
		{"string: no length", []byte{1, 1}, api.ErrTruncated},
		{"string: truncated", []byte{1, 1, 2, 97}, api.ErrTruncated},
		{"string: huge length", append([]byte{1, 1}, ones(9, 1, 97)...), api.ErrTruncated},
		{"string: range", append([]byte{1, 1}, ones(10, 97)...), api.ErrRange},
		{"string: syntax", []byte{1, 1, 129, 0, 97}, api.ErrSyntax},
		{"list: no number", []byte{1, 2}, api.ErrTruncated},
		{"list: truncated", []byte{1, 2, 2, 0, 0}, api.ErrTruncated},
		{"list: huge number", append([]byte{1, 2}, ones(9, 1, 0, 0)...), api.ErrTruncated},
		{"list: range", append([]byte{1, 2}, ones(9, 3)...), api.ErrRange},
		{"list: syntax", []byte{1, 2, 129, 0, 0, 0}, api.ErrSyntax},
		{"element: kind", []byte{1, 2, 1, 9}, api.ErrSyntax},
		{"element: range", append([]byte{1, 2, 1, 0}, ones(9, 2)...), api.ErrRange},
		{"bytes after no field", []byte{0, 0}, api.ErrSyntax},
		{"bytes after the last field", []byte{1, 0, 0, 0}, api.ErrSyntax},
		{"bytes after a list", []byte{1, 2, 1, 0, 0, 0, 0}, api.ErrSyntax},
		{"first truncated", []byte{2, 1, 9, 3}, api.ErrTruncated},
		{"first the kind", append([]byte{3, 3}, ones(9, 2)...), api.ErrSyntax},
		{"first the integer", append(append([]byte{2, 0}, ones(9, 2)...), 3), api.ErrRange},
		{"deep", slices.Concat([]byte{1}, deep, []byte{0, 0}), api.ErrDepth},
		{"depth is found before a missing kind", slices.Concat([]byte{1}, deep), api.ErrDepth},
		{"depth is found before the kind", slices.Concat([]byte{1}, deep, []byte{9}), api.ErrDepth},
		{"an error before the depth", slices.Concat([]byte{2, 3}, deep, []byte{0, 0}), api.ErrSyntax},
		{"much too deep", slices.Concat([]byte{1}, bytes.Repeat([]byte{2, 1}, 1<<20)), api.ErrDepth},
	} {
		got, e := octets.Fields(c.b)
		if len(got) != 0 || e != c.e {
			t.Errorf("%s: Fields = %v, %v, want %v", c.name, got, e, c.e)
		}
	}
}

// P2.6
func TestFieldsAtTheGreatestDepth(t *testing.T) {
	for _, innermost := range []api.Field{integer(1), text("a"), list()} {
		f := nested(api.MaxNest, innermost)
		got, e := octets.Fields(octets.Record(f))
		if e != api.OK || len(got) != 1 || !same(got[0], f) {
			t.Errorf("innermost %v: Fields = %v, %v", innermost, got, e)
		}
	}
}

// randomField returns a valid field of at most the depth.
func randomField(source *rand.Rand, depth int) api.Field {
	switch source.IntN(4) {
	case 0:
		return integer(int(source.Uint64()) >> source.IntN(64))
	case 1:
		return text(strings.Repeat("s", source.IntN(4)*source.IntN(60)))
	case 2:
		return api.Field{}
	}
	if depth == 1 {
		return list()
	}
	return list(randomFields(source, depth-1)...)
}

func randomFields(source *rand.Rand, depth int) []api.Field {
	fields := make([]api.Field, source.IntN(5))
	for i := range fields {
		fields[i] = randomField(source, depth)
	}
	return fields
}

// P2.7 and P2.8
func TestRecordRoundTripAndPrefixes(t *testing.T) {
	source := rand.New(rand.NewPCG(7, 8))
	for range 500 {
		fields := randomFields(source, 5)
		b := octets.Record(fields...)
		got, e := octets.Fields(b)
		if e != api.OK || !slices.EqualFunc(got, fields, same) {
			t.Fatalf("Fields(%v) = %v, %v, want %v", b, got, e, fields)
		}
		for end := range len(b) {
			if got, e := octets.Fields(b[:end]); len(got) != 0 || e != api.ErrTruncated {
				t.Fatalf("Fields(%v) = %v, %v, want ErrTruncated", b[:end], got, e)
			}
		}
	}
}

// P2.8
func TestPrefixesOfDeepRecords(t *testing.T) {
	b := octets.Record(nested(api.MaxNest, text("ab")), integer(300))
	for end := range len(b) {
		if got, e := octets.Fields(b[:end]); len(got) != 0 || e != api.ErrTruncated {
			t.Fatalf("Fields of %d bytes of %d = %v, %v", end, len(b), got, e)
		}
	}
}

// P2.7: what Fields accepts has one form.
func TestFieldsAcceptsOnlyRecords(t *testing.T) {
	alphabet := []byte{0, 1, 2, 3, 97, 127, 128, 129, 255}
	accepted := 0
	var extend func(b []byte, length int)
	extend = func(b []byte, length int) {
		accepted += checkForm(t, b)
		if length == 0 {
			return
		}
		for _, c := range alphabet {
			extend(append(slices.Clone(b), c), length-1)
		}
	}
	extend(nil, 5)
	if accepted == 0 {
		t.Error("nothing was accepted")
	}
}

// checkForm returns the number of records that b is.
func checkForm(t *testing.T, b []byte) int {
	t.Helper()
	fields, e := octets.Fields(b)
	if e != api.OK {
		if len(fields) != 0 {
			t.Errorf("Fields(%v) = %v, %v", b, fields, e)
		}
		return 0
	}
	for _, f := range fields {
		if e := octets.Valid(f); e != api.OK {
			t.Errorf("Fields(%v) contains %v: %v", b, f, e)
		}
	}
	if again := octets.Record(fields...); !bytes.Equal(again, b) {
		t.Errorf("Record(Fields(%v)) = %v", b, again)
	}
	return 1
}

// P2.7
func FuzzFields(f *testing.F) {
	f.Add([]byte{0})
	f.Add([]byte{2, 0, 10, 2, 1, 1, 1, 97})
	f.Add([]byte{1, 2, 2, 1, 2, 97, 98, 0, 172, 2})
	f.Fuzz(func(t *testing.T, b []byte) { checkForm(t, b) })
}

// The rule R5: results share no memory with arguments, which are not changed.
func TestMemoryIsNotShared(t *testing.T) {
	buffer := append(make([]byte, 0, 64), 2, 1, 2, 97, 98, 2, 2, 1, 1, 99, 1, 1, 100)
	before := slices.Clone(buffer[:cap(buffer)])
	fields, e := octets.Fields(buffer)
	s, _, _ := octets.TakeString(buffer[2:])
	if !bytes.Equal(before, buffer[:cap(buffer)]) {
		t.Error("the argument was changed")
	}
	clear(buffer[:cap(buffer)])
	want := []api.Field{text("ab"), list(text("c"), text("d"))}
	if e != api.OK || s != "ab" || !slices.EqualFunc(fields, want, same) {
		t.Errorf("Fields = %v, %v, TakeString = %q", fields, e, s)
	}
	arguments := []api.Field{{Kind: 3}, list(integer(1))}
	octets.Record(arguments...)
	if !slices.EqualFunc(arguments, []api.Field{{Kind: 3}, list(integer(1))}, same) {
		t.Errorf("Record changed its arguments to %v", arguments)
	}
}
