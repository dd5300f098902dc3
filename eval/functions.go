package eval

import (
	"slices"
	"strconv"
	"strings"

	"pipeline/api"
	"pipeline/value"
)

// function is a function of the configuration language, with the number of its args.
type function struct {
	args  int
	apply func([]api.Value) (api.Value, api.Errno)
}

// call returns the value of a call whose args, so many as count says, are evaluated by a function.
func call(name string, count int, args func() ([]api.Value, api.Errno)) (api.Value, api.Errno) {
	f, ok := functionOf(name)
	switch {
	case !ok:
		return api.Value{}, api.ErrName
	case count != f.args:
		return api.Value{}, api.ErrInvalid
	}
	values, err := args()
	if err != api.OK {
		return api.Value{}, err
	}
	return f.apply(values)
}

func functionOf(name string) (function, bool) {
	switch name {
	case "len":
		return ofOne(length), true
	case "contains":
		return ofTwo(contains), true
	case "join":
		return ofTwo(join), true
	case "split":
		return ofTexts(2, split), true
	case "lower":
		return ofTexts(1, func(s ...string) (api.Value, api.Errno) { return text(shifted(s[0], 'A', 'a')) }), true
	case "upper":
		return ofTexts(1, func(s ...string) (api.Value, api.Errno) { return text(shifted(s[0], 'a', 'A')) }), true
	case "startswith":
		return ofTexts(2, func(s ...string) (api.Value, api.Errno) { return truth(strings.HasPrefix(s[0], s[1])) }), true
	case "endswith":
		return ofTexts(2, func(s ...string) (api.Value, api.Errno) { return truth(strings.HasSuffix(s[0], s[1])) }), true
	case "string":
		return ofOne(textOf), true
	case "int":
		return ofTexts(1, numberOf), true
	case "default":
		return ofTwo(defaulted), true
	case "keys":
		return ofOne(keys), true
	}
	return function{}, false
}

func ofOne(f func(api.Value) (api.Value, api.Errno)) function {
	return function{1, func(args []api.Value) (api.Value, api.Errno) { return f(args[0]) }}
}

func ofTwo(f func(a, b api.Value) (api.Value, api.Errno)) function {
	return function{2, func(args []api.Value) (api.Value, api.Errno) { return f(args[0], args[1]) }}
}

// ofTexts returns a function all of whose args are strings.
func ofTexts(count int, f func(...string) (api.Value, api.Errno)) function {
	return function{count, func(args []api.Value) (api.Value, api.Errno) {
		if !all(api.VString, args...) {
			return api.Value{}, api.ErrType
		}
		return f(strs(args)...)
	}}
}

// strs returns the bytes of strings.
func strs(values []api.Value) []string {
	s := make([]string, len(values))
	for i, v := range values {
		s[i] = v.Str
	}
	return s
}

// texts returns the list of strings with these bytes.
func texts(s []string) (api.Value, api.Errno) {
	values := make([]api.Value, len(s))
	for i, part := range s {
		values[i] = api.Value{Kind: api.VString, Str: part}
	}
	return list(values)
}

func length(v api.Value) (api.Value, api.Errno) {
	switch v.Kind {
	case api.VString:
		return number(len(v.Str))
	case api.VList, api.VMap:
		return number(len(v.List))
	}
	return api.Value{}, api.ErrType
}

func keys(v api.Value) (api.Value, api.Errno) {
	if v.Kind != api.VMap {
		return api.Value{}, api.ErrType
	}
	return texts(v.Keys)
}

func contains(v, part api.Value) (api.Value, api.Errno) {
	switch {
	case v.Kind == api.VList:
		return truth(slices.ContainsFunc(v.List, func(element api.Value) bool { return value.Equal(element, part) }))
	case all(api.VString, v, part):
		return truth(strings.Contains(v.Str, part.Str))
	case v.Kind == api.VMap && part.Kind == api.VString:
		return truth(slices.Contains(v.Keys, part.Str))
	}
	return api.Value{}, api.ErrType
}

func join(elements, between api.Value) (api.Value, api.Errno) {
	if elements.Kind != api.VList || !all(api.VString, elements.List...) || between.Kind != api.VString {
		return api.Value{}, api.ErrType
	}
	return text(strings.Join(strs(elements.List), between.Str))
}

func split(s ...string) (api.Value, api.Errno) {
	if s[1] == "" {
		return api.Value{}, api.ErrInvalid
	}
	return texts(strings.Split(s[0], s[1]))
}

// shifted replaces the letters of the alphabet that begins with from by those of the other one.
func shifted(s string, from, to byte) string {
	b := []byte(s)
	for i, c := range b {
		if c >= from && c-from < 26 {
			b[i] = c - from + to
		}
	}
	return string(b)
}

func textOf(v api.Value) (api.Value, api.Errno) {
	s, err := value.Text(v)
	if err != api.OK {
		return api.Value{}, err
	}
	return text(s)
}

func numberOf(s ...string) (api.Value, api.Errno) {
	n, err := strconv.Atoi(s[0])
	// Atoi also takes a plus sign and leading zeros.
	if err != nil || strconv.Itoa(n) != s[0] || n < -api.MaxNumber || n > api.MaxNumber {
		return api.Value{}, api.ErrInvalid
	}
	return api.Value{Kind: api.VInt, Int: n}, api.OK
}

func defaulted(v, instead api.Value) (api.Value, api.Errno) {
	if v.Kind == api.VNull {
		return instead, api.OK
	}
	return v, api.OK
}
