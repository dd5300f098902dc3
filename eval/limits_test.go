package eval_test

import (
	"math/big"
	"slices"
	"strings"
	"testing"

	"pipeline/api"
	"pipeline/eval"
	"pipeline/parser"
)

// numbers are numbers near those at which results leave their limits.
func numbers() []int {
	var all []int
	for _, n := range []int{0, 1 << 26, 3 << 25, 1 << 27, 1 << 52, api.MaxNumber / 3, 94906265, 94906266, api.MaxNumber - 3} {
		for d := -3; d <= 3; d++ {
			all = append(all, n+d, -n-d)
		}
	}
	return all
}

// exact returns the result of an operation with integers of any size, rounded toward zero; there is none if b is 0.
func exact(operator string, a, b int) (*big.Int, bool) {
	x, y, z := big.NewInt(int64(a)), big.NewInt(int64(b)), new(big.Int)
	switch operator {
	case "+":
		return z.Add(x, y), true
	case "-":
		return z.Sub(x, y), true
	case "*":
		return z.Mul(x, y), true
	}
	if b == 0 {
		return nil, false
	}
	if operator == "/" {
		return z.Quo(x, y), true
	}
	return z.Rem(x, y), true
}

// P12.2: arithmetic near its limits. P12.5: division and rest.
func TestArithmetic(t *testing.T) {
	for _, a := range numbers() {
		for _, b := range numbers() {
			for _, operator := range strings.Fields("+ - * / %") {
				e := binary(operator, lit(number(a)), lit(number(b)))
				want, ok := exact(operator, a, b)
				switch {
				case !ok:
					expectError(t, e, nil, api.ErrDivide)
				case want.CmpAbs(big.NewInt(api.MaxNumber)) > 0:
					expectError(t, e, nil, api.ErrOverflow)
				default:
					expectValue(t, e, nil, number(int(want.Int64())))
				}
			}
			if b != 0 {
				x, y := lit(number(a)), lit(number(b))
				back := binary("+", binary("*", binary("/", x, y), y), binary("%", x, y))
				expectValue(t, binary("==", back, x), nil, truth(true))
			}
		}
	}
}

// P12.2: the lengths of strings and lists.
func TestLengths(t *testing.T) {
	full := make([]api.Value, api.MaxList)
	env := []api.Var{
		{Name: "s", Value: str(strings.Repeat("a", api.MaxString))}, {Name: "h", Value: str(strings.Repeat("b", api.MaxString/2))},
		{Name: "l", Value: listed(full...)}, {Name: "k", Value: listed(full[1:]...)}, {Name: "p", Value: str(strings.Repeat(",", api.MaxList-1))},
		{Name: "m", Value: listed(slices.Repeat([]api.Value{str("abcd")}, api.MaxList)...)}, {Name: "n", Value: listed(number(1))},
		{Name: "big", Value: listed(slices.Repeat([]api.Value{str(strings.Repeat("c", api.MaxString))}, api.MaxList)...)},
	}
	for source, want := range map[string]api.Errno{
		`len(s + "") == 4096`: api.OK, `s + "a"`: api.ErrTooLong, "len(h + h) == 4096": api.OK, `h + h + "a"`: api.ErrTooLong, "s + s": api.ErrTooLong, `"" + s == s`: api.OK,
		"len(l + []) == 1024": api.OK, "l + [1]": api.ErrTooLong, "[1] + l": api.ErrTooLong, "len(k + [1]) == 1024": api.OK, "k + [1, 2]": api.ErrTooLong, "l + l": api.ErrTooLong,
		`join([s], s) == s`: api.OK, `join([s, ""], "")  == s`: api.OK, `join([s, ""], "a")`: api.ErrTooLong, `join([s, s], "")`: api.ErrTooLong, `len(join(m, "")) == 4096`: api.OK, `join(m, "a")`: api.ErrTooLong, "join(big, s)": api.ErrTooLong, "join([s, s, 1], s)": api.ErrType, "join(big + n, s)": api.ErrTooLong, "join(l, s)": api.ErrType,
		`len(split(p, ",")) == 1024`: api.OK, `split(p + ",", ",")`: api.ErrTooLong, `split(s, "a")`: api.ErrTooLong, `split(s, s) == ["", ""]`: api.OK, `len(split(s, "aaaaa")) == 820`: api.OK,
		"len(upper(s)) == 4096 && lower(upper(s)) == s": api.OK, "string(s) == s": api.OK, "s - s": api.ErrType, "s + l": api.ErrType, "len([l, l, l]) == 3": api.OK,
	} {
		e := parsed(t, source)
		if want == api.OK {
			expectValue(t, e, env, truth(true))
		} else {
			expectError(t, e, env, want)
		}
	}
	keys := make([]string, api.MaxList)
	for i := range keys {
		keys[i] = string([]byte{'a' + byte(i/26%26), 'a' + byte(i%26), 'a' + byte(i/676)})
	}
	slices.Sort(keys)
	all := api.Expr{Kind: api.EMap, Keys: keys, Args: slices.Repeat([]api.Expr{name("s")}, api.MaxList)}
	listedKeys := make([]api.Value, api.MaxList)
	for i, key := range keys {
		listedKeys[i] = str(key)
	}
	expectValue(t, call("keys", all), env, listed(listedKeys...))
	expectValue(t, call("len", list(slices.Repeat([]api.Expr{name("l")}, api.MaxList)...)), env, number(api.MaxList))
}

// P12.2: the levels of lists and maps.
func TestLevels(t *testing.T) {
	env := []api.Var{{Name: "d14", Value: deep(14)}, {Name: "d15", Value: deep(15)}, {Name: "d16", Value: deep(16)}, {Name: "e", Value: listed()}}
	for source, want := range map[string]api.Errno{
		"[d15] == d16": api.OK, "{a: d15} == {a: d15}": api.OK, "[[d14]] == d16": api.OK, "[d16]": api.ErrDepth, "{a: d16}": api.ErrDepth, "[1, d16]": api.ErrDepth, "{a: 1, b: d16}": api.ErrDepth, "[d16][0]": api.ErrDepth, "[[d15]]": api.ErrDepth, "{a: [d15]}": api.ErrDepth, "[{a: d15}]": api.ErrDepth,
		"[d16, x]": api.ErrName, "[[d16], x]": api.ErrDepth, "[d16[0]] == d16": api.OK, "d16 + d16 == d16 + d16": api.OK, "len(d16 + d16) == 2": api.OK,
	} {
		e := parsed(t, source)
		if want == api.OK {
			expectValue(t, e, env, truth(true))
		} else {
			expectError(t, e, env, want)
		}
	}
	expectError(t, nested(list(), 15), nil, api.ErrDepth)
	expectError(t, nested(api.Expr{Kind: api.EMap}, 15), nil, api.ErrDepth)
	expectError(t, nested(name("e"), 15), env, api.ErrDepth)
	if v, err := eval.Expr(nested(list(), 14), nil); err != api.OK || len(v.List) != 1 {
		t.Errorf("%s: %v", parser.Show(nested(list(), 14)), err)
	}
}
