package config

import (
	"pipeline/api"
	"pipeline/parser"
)

// reader reads a file from tokens. Its methods panic with the error where the next token is not one that the grammar needs.
type reader struct {
	tokens []api.Token
	at     int // the number of tokens that were read; after an error the index at which it was found
}

func (r *reader) file() (f api.File, err api.Errno) {
	defer func() {
		if reason := recover(); reason != nil {
			f, err = api.File{}, reason.(api.Errno)
		}
	}()
	r.accept(isLineEnd)
	for !r.ended() {
		f.Blocks = append(f.Blocks, r.block())
		if !r.ended() {
			r.need(isLineEnd)
		}
	}
	return f, api.OK
}

func (r *reader) block() api.Block {
	b := api.Block{Kind: r.need(isPlain)}
	if isName(r.next()) {
		b.Name = r.need(isName)
	}
	r.need(isOpening)
	r.need(isLineEnd)
	for !r.accept(isClosing) {
		if r.beginsAttr() {
			b.Attrs = append(b.Attrs, r.attr())
		} else {
			b.Blocks = append(b.Blocks, r.block())
		}
		r.need(isLineEnd)
	}
	return b
}

// beginsAttr reports whether the next two tokens are those of an attribute.
func (r *reader) beginsAttr() bool {
	after := reader{tokens: r.tokens, at: r.at}
	return after.accept(isPlain) && isEquals(after.next())
}

func (r *reader) attr() api.Attr {
	name := r.need(isPlain)
	r.need(isEquals)
	e, n, err := parser.Take(r.tokens[r.at:])
	r.at += n
	if err != api.OK {
		panic(err)
	}
	return api.Attr{Name: name, Expr: e}
}

func (r *reader) ended() bool { return r.at == len(r.tokens) }

// next returns the next token, or the zero Token if there is none.
func (r *reader) next() api.Token {
	if r.ended() {
		return api.Token{}
	}
	return r.tokens[r.at]
}

// accept reads the next token if it is one, and reports whether it is.
func (r *reader) accept(is func(api.Token) bool) bool {
	if !is(r.next()) {
		return false
	}
	r.at++
	return true
}

// need reads the next token, which must be one, and returns its text.
func (r *reader) need(is func(api.Token) bool) string {
	t := r.next()
	switch {
	case r.accept(is):
		return t.Text
	case r.ended():
		panic(api.ErrTruncated)
	}
	panic(api.ErrSyntax)
}

func isPlain(t api.Token) bool { return t.Kind == api.TokName && isPlainName(t.Text) }

// isName reports whether a token is a name of a block.
func isName(t api.Token) bool { return t.Kind == api.TokString && t.Text != "" }

func isLineEnd(t api.Token) bool { return t.Kind == api.TokNewline }

func isOpening(t api.Token) bool { return isOperator(t, "{") }

func isClosing(t api.Token) bool { return isOperator(t, "}") }

func isEquals(t api.Token) bool { return isOperator(t, "=") }

func isOperator(t api.Token, text string) bool { return t.Kind == api.TokOp && t.Text == text }
