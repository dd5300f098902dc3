package eval

import (
	"slices"

	"pipeline/api"
	"pipeline/value"
)

// scope contains the values of the variables.
type scope map[string]api.Value

func scopeOf(env []api.Var) scope {
	s := scope{}
	for _, v := range env {
		s[v.Name] = v.Value
	}
	return s
}

// evaluate returns the value of a valid expression. It may share memory with the expression and the scope, so that large values are not copied on the way.
func (s scope) evaluate(e api.Expr) (api.Value, api.Errno) {
	args := func() ([]api.Value, api.Errno) {
		values := make([]api.Value, len(e.Args))
		for i, arg := range e.Args {
			v, err := s.evaluate(arg)
			if err != api.OK {
				return nil, err
			}
			values[i] = v
		}
		return values, api.OK
	}
	switch e.Kind {
	case api.ELit:
		return e.Value, api.OK
	case api.EName:
		return s.variable(e.Name)
	case api.ECond:
		return s.choice(e)
	case api.ECall:
		return call(e.Name, len(e.Args), args)
	case api.EBinary:
		if e.Name == "&&" || e.Name == "||" {
			return s.logic(e)
		}
	}
	values, err := args()
	if err != api.OK {
		return api.Value{}, err
	}
	return apply(e, values)
}

func (s scope) variable(name string) (api.Value, api.Errno) {
	v, ok := s[name]
	if !ok {
		return api.Value{}, api.ErrName
	}
	return v, api.OK
}

// boolean evaluates an expression whose value must be a boolean.
func (s scope) boolean(e api.Expr) (bool, api.Errno) {
	v, err := s.evaluate(e)
	if err == api.OK && v.Kind != api.VBool {
		err = api.ErrType
	}
	return v.Bool, err
}

func (s scope) choice(e api.Expr) (api.Value, api.Errno) {
	first, err := s.boolean(e.Args[0])
	switch {
	case err != api.OK:
		return api.Value{}, err
	case first:
		return s.evaluate(e.Args[1])
	}
	return s.evaluate(e.Args[2])
}

// logic evaluates && or ||. The second operand decides unless the first one does.
func (s scope) logic(e api.Expr) (api.Value, api.Errno) {
	decisive := e.Name == "||"
	b, err := s.boolean(e.Args[0])
	if err == api.OK && b != decisive {
		b, err = s.boolean(e.Args[1])
	}
	if err != api.OK {
		return api.Value{}, err
	}
	return truth(b)
}

// apply returns the value of an expression whose args have these values.
func apply(e api.Expr, args []api.Value) (api.Value, api.Errno) {
	switch e.Kind {
	case api.EMember:
		return member(args[0], e.Name)
	case api.EIndex:
		return element(args[0], args[1])
	case api.EUnary:
		return unary(e.Name, args[0])
	case api.EBinary:
		return binary(e.Name, args[0], args[1])
	case api.EList:
		return list(args)
	}
	return dict(e.Keys, args)
}

// member returns the value of a key of a map.
func member(v api.Value, key string) (api.Value, api.Errno) {
	if v.Kind != api.VMap {
		return api.Value{}, api.ErrType
	}
	return at(v, slices.Index(v.Keys, key))
}

// element returns the element of a list or a map that an index selects.
func element(v, index api.Value) (api.Value, api.Errno) {
	switch {
	case v.Kind == api.VList && index.Kind == api.VInt:
		return at(v, index.Int)
	case index.Kind == api.VString:
		return member(v, index.Str)
	}
	return api.Value{}, api.ErrType
}

func at(v api.Value, index int) (api.Value, api.Errno) {
	if index < 0 || index >= len(v.List) {
		return api.Value{}, api.ErrNotFound
	}
	return v.List[index], api.OK
}

func dict(keys []string, values []api.Value) (api.Value, api.Errno) {
	entries := make([]api.Var, len(keys))
	for i, key := range keys {
		entries[i] = api.Var{Name: key, Value: values[i]}
	}
	return value.Map(entries)
}
