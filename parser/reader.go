package parser

import (
	"strconv"

	"pipeline/api"
	"pipeline/lexer"
)

// reader reads an expression from tokens. Its methods leave the expressions that they read in exprs, which keeps their frames small for deep nesting, and panic with the error where the next token is not one that the grammar needs.
type reader struct {
	tokens []api.Token
	at     int       // the number of tokens that were read
	next   api.Token // the token after them; the zero Token if it does not belong to the grammar, or there is none
	exprs  []api.Expr
}

// expression reads the longest expression that the tokens begin with.
func (r *reader) expression() (e api.Expr, err api.Errno) {
	defer func() {
		if reason := recover(); reason != nil {
			e, err = api.Expr{}, reason.(api.Errno)
		}
	}()
	r.look()
	r.condition()
	return r.exprs[0], api.OK
}

func (r *reader) look() {
	r.next = api.Token{}
	if r.at < len(r.tokens) && inSources(r.tokens[r.at]) {
		r.next = r.tokens[r.at]
	}
}

// inSources reports whether a source can have this token: if so, the token alone is such a source.
func inSources(t api.Token) bool {
	ts, _, _ := lexer.Tokens(lexer.Join([]api.Token{t}))
	return len(ts) == 1 && ts[0].Kind == t.Kind && ts[0].Text == t.Text
}

// read reads the next token.
func (r *reader) read() api.Token {
	t := r.next
	r.at++
	r.look()
	return t
}

// refusal returns the error if the grammar needs another token than the next one.
func (r *reader) refusal() api.Errno {
	if r.at == len(r.tokens) {
		return api.ErrTruncated
	}
	return api.ErrSyntax
}

// operator returns the next token if it is an operator, and otherwise the empty string.
func (r *reader) operator() string {
	if r.next.Kind != api.TokOp {
		return ""
	}
	return r.next.Text
}

// accept reads an operator if it comes next, and reports whether it does.
func (r *reader) accept(operator string) bool {
	if r.operator() != operator {
		return false
	}
	r.read()
	return true
}

// need reads an operator that must come next.
func (r *reader) need(operator string) {
	if !r.accept(operator) {
		panic(r.refusal())
	}
}

// build makes one expression of the last expressions that were read, so many as count says, and returns where it is.
func (r *reader) build(kind int, name string, count int) *api.Expr {
	first := len(r.exprs) - count
	args := append([]api.Expr(nil), r.exprs[first:]...)
	r.exprs = append(r.exprs[:first], api.Expr{})
	e := &r.exprs[first]
	e.Kind, e.Name, e.Args = kind, name, args
	return e
}

func (r *reader) condition() {
	r.operation(or)
	if !r.accept("?") {
		return
	}
	r.condition()
	r.need(":")
	r.condition()
	r.build(api.ECond, "", 3)
}

// operation reads an operation of strength least or above.
func (r *reader) operation(least int) {
	r.unary()
	for strength := unary; ; {
		operator := r.operator()
		n := operatorStrength(operator)
		if n < least || strength < firstStrength(n) {
			return
		}
		r.read()
		r.operation(n + 1)
		r.build(api.EBinary, operator, 2)
		strength = n
	}
}

func (r *reader) unary() {
	operator := r.operator()
	if !isUnary(operator) {
		r.chain()
		return
	}
	r.read()
	r.unary()
	r.build(api.EUnary, operator, 1)
}

func (r *reader) chain() {
	r.atom()
	for {
		switch {
		case r.accept("."):
			r.build(api.EMember, r.member(), 1)
		case r.accept("["):
			r.condition()
			r.need("]")
			r.build(api.EIndex, "", 2)
		default:
			return
		}
	}
}

// member reads the name of a member.
func (r *reader) member() string {
	if r.next.Kind != api.TokName || isWord(r.next.Text) {
		panic(r.refusal())
	}
	return r.read().Text
}

func (r *reader) atom() {
	switch {
	case r.next.Kind == api.TokInt:
		n, _ := strconv.Atoi(r.read().Text)
		r.literal(api.Value{Kind: api.VInt, Int: n})
	case r.next.Kind == api.TokString:
		r.literal(api.Value{Kind: api.VString, Str: r.read().Text})
	case r.next.Kind == api.TokName:
		r.named()
	case r.accept("("):
		r.condition()
		r.need(")")
	case r.accept("["):
		r.build(api.EList, "", r.items("]", r.condition))
	case r.accept("{"):
		r.entries()
	default:
		panic(r.refusal())
	}
}

func (r *reader) literal(v api.Value) { r.build(api.ELit, "", 0).Value = v }

// named reads an atom that begins with a name.
func (r *reader) named() {
	name := r.read().Text
	switch {
	case name == "null":
		r.literal(api.Value{})
	case isWord(name):
		r.literal(api.Value{Kind: api.VBool, Bool: name == "true"})
	case r.accept("("):
		r.build(api.ECall, name, r.items(")", r.condition))
	default:
		r.build(api.EName, name, 0)
	}
}

// entries reads the entries of a map and the brace after them.
func (r *reader) entries() {
	var keys []string
	count := r.items("}", func() {
		keys = append(keys, r.key())
		r.need(":")
		r.condition()
	})
	r.build(api.EMap, "", count).Keys = keys
}

// key reads the key of an entry.
func (r *reader) key() string {
	if r.next.Kind != api.TokName && r.next.Kind != api.TokString {
		panic(r.refusal())
	}
	return r.read().Text
}

// items reads items, between which commas stand, and the bracket after them, and returns the number of items.
func (r *reader) items(closing string, item func()) int {
	count := 0
	for ; !r.accept(closing); count++ {
		if count > 0 {
			r.need(",")
		}
		item()
	}
	return count
}
