package eval

import (
	"slices"

	"pipeline/api"
	"pipeline/num"
	"pipeline/value"
)

func truth(b bool) (api.Value, api.Errno) { return api.Value{Kind: api.VBool, Bool: b}, api.OK }

func number(n int) (api.Value, api.Errno) {
	if n < -api.MaxNumber || n > api.MaxNumber {
		return api.Value{}, api.ErrOverflow
	}
	return api.Value{Kind: api.VInt, Int: n}, api.OK
}

func text(s string) (api.Value, api.Errno) {
	return checked(api.Value{Kind: api.VString, Str: s})
}

func list(elements []api.Value) (api.Value, api.Errno) {
	return checked(api.Value{Kind: api.VList, List: elements})
}

// checked returns a value that consists of valid ones; together they may be too long or too deep.
func checked(v api.Value) (api.Value, api.Errno) {
	if err := value.Valid(v); err != api.OK {
		return api.Value{}, err
	}
	return v, api.OK
}

// all reports whether values are of a kind.
func all(kind int, values ...api.Value) bool {
	return !slices.ContainsFunc(values, func(v api.Value) bool { return v.Kind != kind })
}

func unary(operator string, v api.Value) (api.Value, api.Errno) {
	switch {
	case operator == "!" && v.Kind == api.VBool:
		return truth(!v.Bool)
	case operator == "-" && v.Kind == api.VInt:
		return number(-v.Int)
	}
	return api.Value{}, api.ErrType
}

// binary applies an operator other than && and ||.
func binary(operator string, a, b api.Value) (api.Value, api.Errno) {
	switch operator {
	case "==":
		return truth(value.Equal(a, b))
	case "!=":
		return truth(!value.Equal(a, b))
	case "<", "<=", ">", ">=":
		return ordered(operator, a, b)
	case "+":
		return sum(a, b)
	}
	if !all(api.VInt, a, b) {
		return api.Value{}, api.ErrType
	}
	return arithmetic(operator, a.Int, b.Int)
}

func ordered(operator string, a, b api.Value) (api.Value, api.Errno) {
	if !all(api.VInt, a, b) && !all(api.VString, a, b) {
		return api.Value{}, api.ErrType
	}
	order := value.Compare(a, b)
	switch operator {
	case "<":
		return truth(order < 0)
	case "<=":
		return truth(order <= 0)
	case ">":
		return truth(order > 0)
	}
	return truth(order >= 0)
}

func sum(a, b api.Value) (api.Value, api.Errno) {
	switch {
	case all(api.VInt, a, b):
		return number(num.Add(a.Int, b.Int))
	case all(api.VString, a, b):
		return text(a.Str + b.Str)
	case all(api.VList, a, b):
		return list(slices.Concat(a.List, b.List))
	}
	return api.Value{}, api.ErrType
}

func arithmetic(operator string, a, b int) (api.Value, api.Errno) {
	switch {
	case operator == "-":
		return number(num.Add(a, -b))
	case operator == "*":
		return number(num.Mul(a, b))
	case b == 0:
		return api.Value{}, api.ErrDivide
	case operator == "/":
		return number(a / b)
	}
	return number(a % b)
}
