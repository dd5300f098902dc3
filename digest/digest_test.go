package digest_test

import (
	"bytes"
	"hash/crc32"
	"math"
	"math/rand/v2"
	"slices"
	"strconv"
	"strings"
	"testing"

	"pipeline/api"
	"pipeline/digest"
)

// P3.1
func TestMixExamples(t *testing.T) {
	for _, c := range []struct{ key, x, want uint64 }{
		{0, 0, 0x067070369656f4bf},
		{1, 0, 0x889cad2a06957d6c},
		{1 << 32, 0, 0x3c6ecf0a6dd6344b},
		{0, 1, 0x889cad2a06957d6d},
		{0, 1 << 32, 0x3c6ecf0b6dd6344b},
		{5, 7, 0xd98757df48402c8b},
		{0x0123456789abcdef, 0xfedcba9876543210, 0xc4fbf435a3d5321e},
		{math.MaxUint64, math.MaxUint64, 0xf98f8fc969a90b40},
	} {
		if got := digest.Mix(c.key, c.x); got != c.want {
			t.Errorf("Mix(%#x, %#x) = %#x, want %#x", c.key, c.x, got, c.want)
		}
	}
}

const word = 1 << 32

// round is the round function, computed in 64 bits.
func round(r, k, i uint64) uint64 {
	t := ((r^k)*2654435761 + i) % word
	return t ^ t/65536
}

// P3.1: the example of the chapter, which also checks the function that unmixed uses.
func TestRoundExample(t *testing.T) {
	if got := round(1, 0, 2); got != 0x9e37e784 {
		t.Errorf("the round function = %#x", got)
	}
}

// unmixed returns the x of which y is Mix(key, x): it takes the rounds back, the last one first.
func unmixed(key, y uint64) uint64 {
	l, r := y/word, y%word
	for _, i := range []uint64{4, 3, 2, 1} {
		k := key % word
		if i == 2 || i == 4 {
			k = key / word
		}
		l, r = r^round(l, k, i), l
	}
	return l*word + r
}

// P3.1 and P3.6
func TestMixHasAnInverse(t *testing.T) {
	source := rand.New(rand.NewPCG(1, 2))
	for range 20000 {
		key, x := source.Uint64()>>source.IntN(64), source.Uint64()>>source.IntN(64)
		y := digest.Mix(key, x)
		if got := unmixed(key, y); got != x {
			t.Fatalf("Mix(%#x, %#x) = %#x, which is Mix of %#x", key, x, y, got)
		}
	}
}

// P3.6: inputs that differ in one bit, or in one half only.
func TestMixIsAPermutation(t *testing.T) {
	for _, key := range []uint64{0, 1, 1 << 32, 0x9e3779b97f4a7c15, math.MaxUint64} {
		inputs := map[uint64]uint64{}
		add := func(x uint64) {
			y := digest.Mix(key, x)
			if before, seen := inputs[y]; seen && before != x {
				t.Fatalf("Mix(%#x, %#x) = Mix(%#x, %#x)", key, x, key, before)
			}
			inputs[y] = x
		}
		for x := range uint64(5000) {
			add(x)
			add(x << 32)
			add(math.MaxUint64 - x)
		}
		for i := range 64 {
			add(1 << i)
		}
	}
}

func numbered(count int) []byte {
	b := make([]byte, count)
	for i := range b {
		b[i] = byte(i)
	}
	return b
}

// P3.2
func TestSumExamples(t *testing.T) {
	for _, c := range []struct {
		b    []byte
		want api.Digest
	}{
		{nil, 0x067070369656f4bf},
		{[]byte{}, 0x067070369656f4bf},
		{[]byte{0}, 0x5f998ad8c41df0ea},
		{[]byte{0, 0}, 0x07448d55259c376d},
		{[]byte("a"), 0x25bcca551b0cd35a},
		{[]byte("b"), 0x71f990cb1f97136d},
		{[]byte("1234567"), 0xc278147c0bd024c6},
		{[]byte("12345678"), 0x2a0302a7d5757968},
		{[]byte("123456789"), 0xc42e7a0510ccd09e},
		{make([]byte, 8), 0x766be81213395e2e},
		{make([]byte, 16), 0xa454cd7022f7f063},
		{numbered(256), 0x51ff394c1244753b},
	} {
		if got := digest.Sum(c.b); got != c.want {
			t.Errorf("Sum(%v) = %#x, want %#x", c.b, got, c.want)
		}
	}
}

// P3.2
func TestSumFollowsItsDefinition(t *testing.T) {
	b := slices.Concat(numbered(200), []byte{255, 254, 253, 252, 251, 250, 249, 248, 247})
	for length := range len(b) + 1 {
		want := digest.Mix(uint64(length), 0)
		for begin := 0; begin < length; begin += 8 {
			g := uint64(0)
			for i := min(begin+8, length) - 1; i >= begin; i-- {
				g = g*256 + uint64(b[i])
			}
			want = digest.Mix(g, want) ^ g
		}
		if got := digest.Sum(b[:length]); got != api.Digest(want) {
			t.Errorf("Sum of %d bytes = %#x, want %#x", length, got, want)
		}
	}
}

// P3.3
func TestOfExamples(t *testing.T) {
	for _, c := range []struct {
		label string
		parts []api.Digest
		want  api.Digest
	}{
		{"", nil, 0x5f998ad8c41df0ea},
		{"", []api.Digest{}, 0x5f998ad8c41df0ea},
		{"\x00", nil, 0x07448d55259c376d},
		{"", []api.Digest{0}, 0x1dea0fa2c087c4f3},
		{"a", nil, 0xc2697308222f0757},
		{"a", []api.Digest{258}, 0x8cd749d14eab6051},
		{"a", []api.Digest{1, 2}, 0xeafdfb38ae0adaef},
		{"a", []api.Digest{2, 1}, 0xf13eee8dbbea246d},
		{"job", []api.Digest{math.MaxUint64, 1 << 63, 0}, 0x413f1e340a12964f},
	} {
		if got := digest.Of(c.label, c.parts...); got != c.want {
			t.Errorf("Of(%q, %v) = %#x, want %#x", c.label, c.parts, got, c.want)
		}
	}
}

// P3.3
func TestOfIsTheSumOfItsBytes(t *testing.T) {
	got := digest.Of("é\x00ÿ", 0x0807060504030201, 0xf0e0d0c0b0a09080)
	want := digest.Sum([]byte("é\x00ÿ\x00\x01\x02\x03\x04\x05\x06\x07\x08\x80\x90\xa0\xb0\xc0\xd0\xe0\xf0"))
	if got != want {
		t.Errorf("Of = %#x, want %#x", got, want)
	}
}

// P3.4
func TestTextExamples(t *testing.T) {
	for _, c := range []struct {
		d    api.Digest
		want string
	}{
		{0, "0000000000000000"},
		{9, "0000000000000009"},
		{10, "000000000000000a"},
		{255, "00000000000000ff"},
		{0x0123456789abcdef, "0123456789abcdef"},
		{1 << 63, "8000000000000000"},
		{math.MaxUint64, "ffffffffffffffff"},
	} {
		if got := digest.Text(c.d); got != c.want {
			t.Errorf("Text(%d) = %q, want %q", c.d, got, c.want)
		}
		checkParse(t, c.want, c.d, api.OK)
	}
}

func checkParse(t *testing.T, s string, d api.Digest, e api.Errno) {
	t.Helper()
	gotD, gotE := digest.Parse(s)
	if gotD != d || gotE != e {
		t.Errorf("Parse(%q) = %d, %v, want %d, %v", s, gotD, gotE, d, e)
	}
}

// P3.4
func TestParseRejectsEveryOtherString(t *testing.T) {
	for _, s := range []string{
		"", "0", "ff", "00000000000000f", "00000000000000fff", "000000000000000ff", "10000000000000000",
		"00000000000000FF", "00000000000000fF", "ABCDEFABCDEFABCD",
		"+0000000000000ff", "-0000000000000ff", " 0000000000000ff", "00000000000000f ", "00000000000000f\n",
		"0x000000000000ff", "0000_0000_0000_f", "0000000000000_ff", "000000000000.000", "000000000000000\x00",
		"00000000000000é", "000000000000000é", strings.Repeat("f", 17), strings.Repeat("0", 100000),
	} {
		checkParse(t, s, 0, api.ErrSyntax)
	}
	for c := range 256 {
		s := "0123456789abcde" + string([]byte{byte(c)})
		n, err := strconv.ParseUint(s, 16, 64)
		if err != nil || 'A' <= c && c <= 'F' {
			checkParse(t, s, 0, api.ErrSyntax)
		} else {
			checkParse(t, s, api.Digest(n), api.OK)
		}
	}
}

// P3.4
func TestTextRoundTrip(t *testing.T) {
	source := rand.New(rand.NewPCG(3, 4))
	for range 20000 {
		d := api.Digest(source.Uint64() >> source.IntN(64))
		checkParse(t, digest.Text(d), d, api.OK)
	}
}

// P3.5
func TestCheckExamples(t *testing.T) {
	for _, c := range []struct {
		b    []byte
		want int
	}{
		{nil, 0},
		{[]byte{}, 0},
		{[]byte{0}, 3523407757},
		{[]byte("a"), 3904355907},
		{[]byte("abc"), 891568578},
		{[]byte("123456789"), 3421780262},
		{[]byte{255, 255, 255, 255}, math.MaxUint32},
		{[]byte("The quick brown fox jumps over the lazy dog"), 1095738169},
	} {
		if got := digest.Check(c.b); got != c.want {
			t.Errorf("Check(%v) = %d, want %d", c.b, got, c.want)
		}
	}
}

func randomBytes(source *rand.Rand, count int) []byte {
	b := make([]byte, count)
	for i := range b {
		b[i] = byte(source.Uint32())
	}
	return b
}

// P3.5
func TestCheckIsTheCRC(t *testing.T) {
	source := rand.New(rand.NewPCG(5, 6))
	for length := range 600 {
		b := randomBytes(source, length)
		if got, want := digest.Check(b), int(crc32.ChecksumIEEE(b)); got != want {
			t.Fatalf("Check(%v) = %d, want %d", b, got, want)
		}
	}
}

// P3.7: bursts at every place, the first and the last bytes included.
func TestCheckDetectsBursts(t *testing.T) {
	source := rand.New(rand.NewPCG(7, 8))
	for _, length := range []int{1, 2, 3, 4, 5, 9, 64} {
		b := randomBytes(source, length)
		want := digest.Check(b)
		for begin := range length {
			for n := range 500 {
				mask := source.Uint32() | 1<<(n%8) // which changes the first byte
				changed := slices.Clone(b)
				for i := begin; i < min(begin+4, length); i++ {
					changed[i] ^= byte(mask >> (8 * (i - begin)))
				}
				if digest.Check(changed) == want {
					t.Fatalf("Check(%v) = Check(%v)", changed, b)
				}
			}
		}
	}
}

// P3.7
func TestCheckDetectsEveryChangeOfTwoBytes(t *testing.T) {
	b := []byte("pipeline")
	want := digest.Check(b)
	for mask := 1; mask < 1<<16; mask++ {
		changed := slices.Clone(b)
		changed[3] ^= byte(mask)
		changed[6] ^= byte(mask >> 8)
		if digest.Check(changed) == want {
			t.Fatalf("Check(%v) = Check(%v)", changed, b)
		}
	}
}

// The rule R5: arguments, with their spare capacity, are not changed.
func TestArgumentsAreNotChanged(t *testing.T) {
	buffer := bytes.Repeat([]byte{7}, 32)
	digest.Sum(buffer[:13])
	digest.Check(buffer[:13])
	if !bytes.Equal(buffer, bytes.Repeat([]byte{7}, 32)) {
		t.Errorf("the bytes were changed to %v", buffer)
	}
	parts := []api.Digest{1, 2, 3, 4}
	digest.Of("a", parts[:2]...)
	if !slices.Equal(parts, []api.Digest{1, 2, 3, 4}) {
		t.Errorf("the parts were changed to %v", parts)
	}
}
