package check

import (
	"slices"

	"pipeline/api"
	"pipeline/typing"
)

// operation returns the type of an operation, and whether its operands may have their types. Only - has one or two operands.
func operation(operator string, operands ...api.Type) (api.Type, bool) {
	first, last := operands[0], operands[len(operands)-1]
	// closed is the rule of operators that take and return values of one kind.
	closed := func(kind int) (api.Type, bool) {
		t := simple(kind)
		return t, compatible(first, t) && compatible(last, t)
	}
	equality := func() (api.Type, bool) { return simple(api.TBool), true }
	order := func() (api.Type, bool) {
		unknown := loose(first) && loose(last)
		return simple(api.TBool), unknown || common(api.TInt, first, last) || common(api.TString, first, last)
	}
	sum := func() (api.Type, bool) {
		switch {
		case loose(first) && loose(last):
			return typing.Join(first, last), true
		case common(api.TList, first, last):
			return of(api.TList, typing.Join(element(first), element(last))), true
		case common(api.TString, first, last):
			return simple(api.TString), true
		}
		return simple(api.TInt), common(api.TInt, first, last)
	}
	switch operator {
	case "!", "&&", "||":
		return closed(api.TBool)
	case "==", "!=":
		return equality()
	case "<", "<=", ">", ">=":
		return order()
	case "+":
		return sum()
	}
	return closed(api.TInt)
}

// signature says what a function takes and returns. Its args must be compatible with one of several lists of types, which all have the same length.
type signature struct {
	takes   [][]api.Type
	returns api.Type
}

// signatureOf returns the signature of a function; a name that is not one of a function has a signature without lists. What default returns depends on its args.
func signatureOf(name string) signature {
	null, truth, number, text := simple(api.TNull), simple(api.TBool), simple(api.TInt), simple(api.TString)
	all, list, dict, texts := simple(api.TAny), of(api.TList, simple(api.TAny)), of(api.TMap, simple(api.TAny)), of(api.TList, text)
	switch name {
	case "len":
		return signature{[][]api.Type{{text}, {list}, {dict}}, number}
	case "contains":
		return signature{[][]api.Type{{list, all}, {text, text}, {dict, text}}, truth}
	case "join":
		return signature{[][]api.Type{{texts, text}}, text}
	case "string":
		return signature{[][]api.Type{{null}, {truth}, {number}, {text}}, text}
	case "lower", "upper":
		return signature{[][]api.Type{{text}}, text}
	case "split":
		return signature{[][]api.Type{{text, text}}, texts}
	case "startswith", "endswith":
		return signature{[][]api.Type{{text, text}}, truth}
	case "int":
		return signature{[][]api.Type{{text}}, number}
	case "default":
		return signature{[][]api.Type{{all, all}}, all}
	case "keys":
		return signature{[][]api.Type{{dict}}, texts}
	}
	return signature{}
}

// callable checks the name and the number of args of a call.
func callable(name string, args int) api.Errno {
	takes := signatureOf(name).takes
	switch {
	case len(takes) == 0:
		return api.ErrName
	case len(takes[0]) != args:
		return api.ErrInvalid
	}
	return api.OK
}

// resultOf returns the type of a call that is callable, and whether its args may have their types.
func resultOf(name string, args []api.Type) (api.Type, bool) {
	f := signatureOf(name)
	if name == "default" {
		f.returns = defaulted(args[0], args[1])
	}
	accepts := func(types []api.Type) bool { return slices.EqualFunc(args, types, compatible) }
	return f.returns, slices.ContainsFunc(f.takes, accepts)
}

// defaulted returns the type of what stands for a value, or for another one if it is null.
func defaulted(t, instead api.Type) api.Type {
	if t.Kind == api.TNull {
		return instead
	}
	return t
}
