package check

import (
	"pipeline/api"
	"pipeline/typing"
)

func simple(kind int) api.Type { return api.Type{Kind: kind} }

// of returns the list or the map, as kind says, of elements of a type.
func of(kind int, element api.Type) api.Type {
	return api.Type{Kind: kind, Elem: []api.Type{element}}
}

func compound(t api.Type) bool { return t.Kind == api.TList || t.Kind == api.TMap }

// loose reports whether the kind of the values of a type is not known.
func loose(t api.Type) bool { return t.Kind == api.TAny || t.Kind == api.TNever }

// compatible reports whether a value of type t may be used where one of type u is needed.
func compatible(t, u api.Type) bool {
	for t.Kind == u.Kind && compound(t) {
		t, u = t.Elem[0], u.Elem[0]
	}
	return loose(t) || u.Kind == api.TAny || t.Kind == u.Kind
}

// common reports whether types have a common kind.
func common(kind int, a, b api.Type) bool {
	fits := func(t api.Type) bool { return loose(t) || t.Kind == kind }
	return fits(a) && fits(b) && (a.Kind == kind || b.Kind == kind)
}

// element returns the type of the elements of a list, which is a loose type itself if the list has one.
func element(t api.Type) api.Type {
	if loose(t) {
		return t
	}
	return t.Elem[0]
}

// joined returns the least type that contains all types.
func joined(types []api.Type) api.Type {
	all := simple(api.TNever)
	for _, t := range types {
		all = typing.Join(all, t)
	}
	return all
}

// copied returns a valid type that shares no memory with t.
func copied(t api.Type) api.Type {
	if !compound(t) {
		return simple(t.Kind)
	}
	return of(t.Kind, copied(t.Elem[0]))
}
