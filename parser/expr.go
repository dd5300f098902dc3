package parser

import (
	"iter"
	"slices"

	"pipeline/api"
	"pipeline/value"
)

// The strengths of expressions and operators.
const (
	conditional = iota + 1
	or
	and
	comparison
	sum
	product
	unary
	chain
)

// operatorStrength returns the strength of an operator with two operands, and 0 if it is none.
func operatorStrength(operator string) int {
	switch operator {
	case "||":
		return or
	case "&&":
		return and
	case "==", "!=", "<", "<=", ">", ">=":
		return comparison
	case "+", "-":
		return sum
	case "*", "/", "%":
		return product
	}
	return 0
}

// firstStrength returns the strength that the first operand of an operator of strength n must have.
func firstStrength(n int) int {
	if n == comparison { // there is at most one
		return n + 1
	}
	return n
}

func isUnary(operator string) bool { return operator == "!" || operator == "-" }

func isWord(name string) bool { return name == "true" || name == "false" || name == "null" }

func isPlainName(s string) bool {
	return inSources(api.Token{Kind: api.TokName, Text: s}) && !isWord(s)
}

// nodes enumerates the nodes of an expression, each before those of its args, with their levels.
func nodes(e api.Expr) iter.Seq2[int, api.Expr] {
	return func(yield func(int, api.Expr) bool) { visit(e, 1, yield) }
}

// visit reports whether yield asks for more.
func visit(e api.Expr, level int, yield func(int, api.Expr) bool) bool {
	if !yield(level, e) {
		return false
	}
	for _, arg := range e.Args {
		if !visit(arg, level+1, yield) {
			return false
		}
	}
	return true
}

// Count returns the number of nodes.
func Count(e api.Expr) int {
	count := 0
	for range nodes(e) {
		count++
	}
	return count
}

// Equal reports whether expressions are equal.
func Equal(a, b api.Expr) bool {
	return a.Kind == b.Kind && a.Name == b.Name && slices.Equal(a.Keys, b.Keys) &&
		value.Equal(a.Value, b.Value) && slices.EqualFunc(a.Args, b.Args, Equal)
}

// Valid checks an expression.
func Valid(e api.Expr) api.Errno {
	if tooMany(e) {
		return api.ErrLimit
	}
	for level, node := range nodes(e) {
		if err := validNode(node, level); err != api.OK {
			return err
		}
	}
	return api.OK
}

// tooMany reports whether there are more than MaxNodes nodes; it looks at no others.
func tooMany(e api.Expr) bool {
	count := 0
	for range nodes(e) {
		count++
		if count > api.MaxNodes {
			return true
		}
	}
	return false
}

// validNode checks an expression without its args.
func validNode(e api.Expr, level int) api.Errno {
	switch {
	case level > api.MaxDepth:
		return api.ErrDepth
	case !wellFormed(e):
		return api.ErrInvalid
	}
	if err := value.Valid(e.Value); err != api.OK {
		return err
	}
	switch {
	case len(e.Args) > api.MaxList:
		return api.ErrTooLong
	case repeats(e.Keys):
		return api.ErrExists
	}
	return api.OK
}

func wellFormed(e api.Expr) bool {
	return e.Kind >= api.ELit && e.Kind <= api.EMap &&
		(e.Kind == api.ELit || isZero(e.Value)) && hasName(e) && hasArgs(e) && hasKeys(e)
}

// isZero reports whether v is the zero Value: it is the only valid value of its kind.
func isZero(v api.Value) bool { return v.Kind == api.VNull && value.Valid(v) == api.OK }

// hasName reports whether an expression has a name of its kind.
func hasName(e api.Expr) bool {
	switch e.Kind {
	case api.EName, api.EMember, api.ECall:
		return isPlainName(e.Name)
	case api.EUnary:
		return isUnary(e.Name)
	case api.EBinary:
		return operatorStrength(e.Name) > 0
	}
	return e.Name == ""
}

// hasArgs reports whether an expression has as many args as its kind requires.
func hasArgs(e api.Expr) bool {
	switch e.Kind {
	case api.ELit, api.EName:
		return len(e.Args) == 0
	case api.EMember, api.EUnary:
		return len(e.Args) == 1
	case api.EIndex, api.EBinary:
		return len(e.Args) == 2
	case api.ECond:
		return len(e.Args) == 3
	}
	return true
}

// hasKeys reports whether an expression has the keys that its kind requires.
func hasKeys(e api.Expr) bool {
	if e.Kind != api.EMap {
		return len(e.Keys) == 0
	}
	return len(e.Keys) == len(e.Args) && !slices.ContainsFunc(e.Keys, notKey)
}

func notKey(s string) bool { return s == "" || len(s) > api.MaxName }

// repeats reports whether a key occurs twice.
func repeats(keys []string) bool {
	seen := map[string]bool{}
	for _, key := range keys {
		if seen[key] {
			return true
		}
		seen[key] = true
	}
	return false
}
