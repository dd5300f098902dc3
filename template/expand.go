package template

import (
	"slices"

	"pipeline/api"
	"pipeline/check"
	"pipeline/config"
	"pipeline/eval"
)

// expansion is what is known while a file is expanded.
type expansion struct {
	templates map[string]api.Template
	env       lookup
	uses      int // those that were found
}

// named returns templates by their names; among those with the same name the first one counts.
func named(ts []api.Template) map[string]api.Template {
	all := map[string]api.Template{}
	for _, t := range ts {
		if _, ok := all[t.Name]; !ok && sound(t) {
			all[t.Name] = t
		}
	}
	return all
}

// sound reports whether Collect could have returned a template with this body. Others are left out: the levels of templates that use each other add up, and those of a body that is not valid could be too many for that.
func sound(t api.Template) bool {
	b := t.Body
	b.Kind = templateKind
	return config.Valid(api.File{Blocks: []api.Block{b}}) == api.OK
}

// block expands a block that is not a use.
func (x *expansion) block(b api.Block, depth int) (api.Block, api.Errno) {
	names := map[string]bool{}
	for _, a := range b.Attrs {
		names[a.Name] = true
	}
	attrs := slices.Clip(b.Attrs)
	adopt := func(more []api.Attr) api.Errno {
		for _, a := range more {
			if names[a.Name] {
				return api.ErrExists
			}
			names[a.Name] = true
			attrs = append(attrs, a)
		}
		return api.OK
	}
	blocks, err := x.nested(b.Blocks, depth, adopt)
	if err != api.OK {
		return api.Block{}, err
	}
	b.Attrs, b.Blocks = attrs, blocks
	return b, api.OK
}

// nested returns what stands in the places of blocks after their expansion; adopt takes the attributes of the blocks that uses stand for.
func (x *expansion) nested(blocks []api.Block, depth int, adopt func([]api.Attr) api.Errno) ([]api.Block, api.Errno) {
	var all []api.Block
	for _, b := range blocks {
		if b.Kind != useKind {
			expanded, err := x.block(b, depth)
			if err != api.OK {
				return nil, err
			}
			all = append(all, expanded)
			continue
		}
		meant, err := x.meaning(b, depth)
		if err == api.OK {
			err = adopt(meant.Attrs)
		}
		if err != api.OK {
			return nil, err
		}
		all = append(all, meant.Blocks...)
	}
	return all, api.OK
}

// refuse adopts no attributes: none can stand at the top level of a file.
func refuse(attrs []api.Attr) api.Errno {
	if len(attrs) > 0 {
		return api.ErrInvalid
	}
	return api.OK
}

// meaning returns the block that a use stands for.
func (x *expansion) meaning(use api.Block, depth int) (api.Block, api.Errno) {
	t, exists := x.templates[use.Name]
	switch {
	case len(use.Blocks) > 0:
		return api.Block{}, api.ErrInvalid
	case !exists:
		return api.Block{}, api.ErrNotFound
	case depth == api.MaxDepth:
		return api.Block{}, api.ErrDepth
	case x.uses == api.MaxNodes:
		return api.Block{}, api.ErrLimit
	}
	x.uses++
	args, err := x.arguments(use.Attrs)
	if err != api.OK {
		return api.Block{}, err
	}
	values, err := Bind(t.Params, args)
	if err != api.OK {
		return api.Block{}, err
	}
	body, err := insert(t.Body, values)
	if err != api.OK {
		return api.Block{}, err
	}
	return x.block(body, depth+1)
}

// arguments returns the values of the attributes of a use.
func (x *expansion) arguments(attrs []api.Attr) ([]api.Var, api.Errno) {
	var args []api.Var
	for _, a := range attrs {
		v, err := eval.Expr(a.Expr, x.env.variables(check.Names(a.Expr)))
		if err != api.OK {
			return nil, err
		}
		args = append(args, api.Var{Name: a.Name, Value: v})
	}
	return args, api.OK
}
