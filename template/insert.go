package template

import (
	"pipeline/api"
	"pipeline/check"
	"pipeline/interp"
	"pipeline/value"
)

// lookup finds the value of a name, if it has one.
type lookup func(name string) (api.Value, bool)

func lookupIn(vars []api.Var) lookup {
	values := map[string]api.Value{}
	for _, v := range vars {
		values[v.Name] = v.Value
	}
	return func(name string) (api.Value, bool) {
		v, ok := values[name]
		return v, ok
	}
}

// variables returns the environment of those of the names that have values. An expression needs no more than the names that it uses, and all variables of an environment are checked with every expression.
func (find lookup) variables(names []string) []api.Var {
	var vars []api.Var
	for _, name := range names {
		if v, ok := find(name); ok {
			vars = append(vars, api.Var{Name: name, Value: v})
		}
	}
	return vars
}

// insert inserts values into a block. The result may share memory with both.
func insert(b api.Block, values []api.Var) (api.Block, api.Errno) {
	find := lookupIn(values)
	rewrite := func(e api.Expr) (api.Expr, api.Errno) {
		e, _, err := insertExpr(e, find)
		return e, err
	}
	rename := func(name string) (string, api.Errno) {
		names, err := interp.Names(name)
		if err != api.OK {
			return "", err
		}
		return interp.Expand(name, find.variables(names))
	}
	return rewritten(b, rewrite, rename)
}

// rewritten returns a block whose expressions, and the names of whose nested blocks, were rewritten.
func rewritten(b api.Block, rewrite func(api.Expr) (api.Expr, api.Errno), rename func(string) (string, api.Errno)) (api.Block, api.Errno) {
	attrs := make([]api.Attr, len(b.Attrs))
	for i, a := range b.Attrs {
		e, err := rewrite(a.Expr)
		if err != api.OK {
			return api.Block{}, err
		}
		attrs[i] = api.Attr{Name: a.Name, Expr: e}
	}
	blocks := make([]api.Block, len(b.Blocks))
	for i, nested := range b.Blocks {
		name, err := rename(nested.Name)
		if err != api.OK {
			return api.Block{}, err
		}
		nested.Name = name
		if blocks[i], err = rewritten(nested, rewrite, rename); err != api.OK {
			return api.Block{}, err
		}
	}
	b.Attrs, b.Blocks = attrs, blocks
	return b, api.OK
}

// insertExpr inserts values into an expression, and reports whether it uses one of their names.
func insertExpr(e api.Expr, find lookup) (api.Expr, bool, api.Errno) {
	switch {
	case e.Kind == api.EName:
		v, ok := find(e.Name)
		if !ok {
			return e, false, api.OK
		}
		return api.Expr{Kind: api.ELit, Value: v}, true, api.OK
	case isString(e):
		s, uses, err := insertString(e.Value.Str, find)
		e.Value.Str = s
		return e, uses, err
	}
	args, uses := make([]api.Expr, len(e.Args)), false
	for i, arg := range e.Args {
		inserted, used, err := insertExpr(arg, find)
		if err != api.OK {
			return api.Expr{}, false, err
		}
		args[i], uses = inserted, uses || used
	}
	if uses {
		e.Args = args
	}
	return e, uses, api.OK
}

// insertString inserts values into a literal string, and reports whether it uses one of their names; if it does not, it stays as it is.
func insertString(s string, find lookup) (string, bool, api.Errno) {
	ps, _, err := interp.Parts(s)
	if err != api.OK {
		return s, false, api.OK
	}
	uses := false
	for i, p := range ps {
		if exceeds(p.Expr, find) {
			return "", false, api.ErrTooLong
		}
		e, used, err := insertExpr(p.Expr, find)
		if err != api.OK {
			return "", false, err
		}
		ps[i].Expr, uses = e, uses || used
	}
	if !uses {
		return s, false, api.OK
	}
	shown := interp.Show(ps)
	if len(shown) > api.MaxString {
		return "", false, api.ErrTooLong
	}
	return shown, true, api.OK
}

// exceeds reports whether a literal that is to be inserted is too long for any string, which would be built only to be refused.
func exceeds(e api.Expr, find lookup) bool {
	for _, v := range find.variables(check.Names(e)) {
		if len(value.Show(v.Value)) > api.MaxString {
			return true
		}
	}
	return false
}
