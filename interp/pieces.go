package interp

import (
	"iter"
	"strings"

	"pipeline/api"
	"pipeline/parser"
)

const (
	dollar  = "$"
	escaped = "$$" // stands for a dollar sign
	opening = "${" // begins an expression
)

// fault is an error, and the index of the byte at which it is found.
type fault struct {
	at  int
	err api.Errno
}

// pieces enumerates the pieces of a string. A fault ends the enumeration.
func pieces(s string) iter.Seq2[api.Piece, fault] {
	return func(yield func(api.Piece, fault) bool) {
		for at := 0; at < len(s); {
			p, length, err := first(s[at:])
			if err != api.OK {
				yield(api.Piece{}, fault{at + length, err})
				return
			}
			if !yield(p, fault{}) {
				return
			}
			at += length
		}
	}
}

// first returns the piece that a string begins with, and how many bytes of the string it takes; with an error it is the number of bytes before the one at which the error is found.
func first(s string) (api.Piece, int, api.Errno) {
	if strings.HasPrefix(s, opening) {
		return expression(s)
	}
	text, length := unescaped(s)
	return api.Piece{Text: text}, length, api.OK
}

// unescaped returns the text that a string begins with, and how many bytes of the string it takes.
func unescaped(s string) (string, int) {
	var b strings.Builder
	at := 0
	for at < len(s) && !strings.HasPrefix(s[at:], opening) {
		b.WriteByte(s[at])
		if strings.HasPrefix(s[at:], escaped) {
			at++
		}
		at++
	}
	return b.String(), at
}

// expression is first for a string that begins with an expression.
func expression(s string) (api.Piece, int, api.Errno) {
	source := s[len(opening):]
	end, closed := closing(source)
	if !closed {
		return api.Piece{}, 0, api.ErrTruncated
	}
	e, at, err := parser.Parse(source[:end])
	if err != api.OK {
		return api.Piece{}, len(opening) + at, err
	}
	return api.Piece{Is: true, Expr: e}, len(opening) + end + 1, api.OK
}

// closing returns the index of the brace that closes the expression whose source begins s, and whether there is one.
func closing(s string) (int, bool) {
	open, quoted := 0, false
	for at := 0; at < len(s); at++ {
		c := s[at]
		switch {
		case c == '"':
			quoted = !quoted
		case quoted && c == '\\': // a quote after it does not end the string
			at++
		case quoted:
		case c == '{':
			open++
		case c == '}' && open == 0:
			return at, true
		case c == '}':
			open--
		}
	}
	return 0, false
}
