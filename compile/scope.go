package compile

import (
	"slices"

	"pipeline/api"
	"pipeline/check"
	"pipeline/duration"
	"pipeline/eval"
	"pipeline/ident"
	"pipeline/interp"
)

// scope is an environment, ascending by name.
type scope struct {
	vars []api.Var
	err  api.Errno // with which every evaluation in it begins
}

// scopeOf returns the environment of variables with different names.
func scopeOf(vars []api.Var) scope {
	sorted := slices.Clone(vars)
	slices.SortFunc(sorted, func(v, w api.Var) int { return ident.Compare(v.Name, w.Name) })
	return scope{vars: sorted, err: eval.Env(sorted)}
}

// with returns the environment that has more variables, none of which it may have already.
func (s scope) with(vars []api.Var) scope {
	for _, v := range vars {
		_, exists := s.find(v.Name)
		require(!exists, api.ErrExists)
	}
	return scopeOf(slices.Concat(s.vars, vars))
}

func (s scope) find(name string) (int, bool) {
	return slices.BinarySearchFunc(s.vars, name, func(v api.Var, name string) int { return ident.Compare(v.Name, name) })
}

// part returns the variables with these names. An expression needs no more than the names that it uses, and all variables of an environment are checked with every expression.
func (s scope) part(names []string) []api.Var {
	var vars []api.Var
	for _, name := range names {
		if i, ok := s.find(name); ok {
			vars = append(vars, s.vars[i])
		}
	}
	return vars
}

// value evaluates an expression to a value of a kind.
func (s scope) value(e api.Expr, kind int) api.Value {
	raise(s.err)
	v := must(eval.Expr(e, s.part(check.Names(e))))
	require(v.Kind == kind, api.ErrType)
	return v
}

// list evaluates an expression to a list of values of a kind.
func (s scope) list(e api.Expr, kind int) []api.Value {
	list := s.value(e, api.VList).List
	for _, v := range list {
		require(v.Kind == kind, api.ErrType)
	}
	return list
}

func (s scope) integer(e api.Expr) int { return s.value(e, api.VInt).Int }

func (s scope) boolean(e api.Expr) bool { return s.value(e, api.VBool).Bool }

// plain returns a string as it is.
func (s scope) plain(e api.Expr) string { return s.value(e, api.VString).Str }

// plains returns strings as they are.
func (s scope) plains(e api.Expr) []string {
	var all []string
	for _, v := range s.list(e, api.VString) {
		all = append(all, v.Str)
	}
	return all
}

func (s scope) text(e api.Expr) string { return s.expanded(s.plain(e)) }

func (s scope) texts(e api.Expr) []string {
	all := s.plains(e)
	for i, text := range all {
		all[i] = s.expanded(text)
	}
	return all
}

// names returns texts ascending.
func (s scope) names(e api.Expr) []string { return ident.Sorted(s.texts(e)) }

func (s scope) duration(e api.Expr) int { return must(duration.Parse(s.text(e))) }

// expanded returns the text of a string.
func (s scope) expanded(text string) string {
	return must(interp.Expand(text, s.part(must(interp.Names(text)))))
}
