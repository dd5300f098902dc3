package parser

import (
	"strings"

	"pipeline/api"
	"pipeline/lexer"
	"pipeline/value"
)

// Show returns the canonical source of an expression.
func Show(e api.Expr) string {
	if Valid(e) != api.OK {
		return ""
	}
	return source(e)
}

// source returns the source of a valid expression.
func source(e api.Expr) string {
	switch e.Kind {
	case api.ELit:
		return value.Show(e.Value)
	case api.EName:
		return e.Name
	case api.EMember:
		return operand(e.Args[0], chain) + "." + e.Name
	case api.EIndex:
		return operand(e.Args[0], chain) + "[" + source(e.Args[1]) + "]"
	case api.ECall:
		return e.Name + "(" + items(e) + ")"
	case api.EUnary:
		return e.Name + operand(e.Args[0], unary)
	case api.EBinary:
		n := operatorStrength(e.Name)
		return operand(e.Args[0], firstStrength(n)) + " " + e.Name + " " + operand(e.Args[1], n+1)
	case api.ECond:
		return operand(e.Args[0], or) + " ? " + source(e.Args[1]) + " : " + source(e.Args[2])
	case api.EList:
		return "[" + items(e) + "]"
	}
	return "{" + items(e) + "}"
}

// operand returns the source of an arg that must have a strength of at least least.
func operand(e api.Expr, least int) string {
	if strength(e) < least {
		return "(" + source(e) + ")"
	}
	return source(e)
}

func strength(e api.Expr) int {
	switch {
	case e.Kind == api.ECond:
		return conditional
	case e.Kind == api.EBinary:
		return operatorStrength(e.Name)
	case e.Kind == api.EUnary || e.Kind == api.ELit && e.Value.Int < 0:
		return unary
	}
	return chain
}

// items returns what stands between the brackets of a call, a list or a map.
func items(e api.Expr) string {
	sources := make([]string, len(e.Args))
	for i, arg := range e.Args {
		if e.Kind == api.EMap {
			sources[i] = lexer.Quote(e.Keys[i]) + ": "
		}
		sources[i] += source(arg)
	}
	return strings.Join(sources, ", ")
}
