package lexer

import (
	"strconv"

	"pipeline/api"
)

const hexDigits = "0123456789abcdef"

// Quote returns a string literal.
func Quote(s string) string {
	literal := make([]byte, 0, len(s)+2)
	literal = append(literal, '"')
	for i := range len(s) {
		literal = appendCharacter(literal, s[i])
	}
	return string(append(literal, '"'))
}

// appendCharacter appends the characters that stand for a byte as in layer 7, which this layer does not call.
func appendCharacter(b []byte, c byte) []byte {
	switch {
	case c == '\n':
		return append(b, '\\', 'n')
	case c == '\t':
		return append(b, '\\', 't')
	case c < ' ' || c > '~':
		return append(b, '\\', 'x', hexDigits[c/16], hexDigits[c%16])
	case c == '"' || c == '\\':
		b = append(b, '\\')
	}
	return append(b, c)
}

// unquoted returns the bytes for which a source that begins with a double quote has a literal, and the length of the literal.
func unquoted(src string) (string, int, api.Errno) {
	var text []byte
	for at := 1; at < len(src); {
		if src[at] == '"' {
			return string(text), at + 1, api.OK
		}
		c, length, e := character(src[at:])
		if e != api.OK {
			return "", 0, e
		}
		text = append(text, c)
		at += length
	}
	return "", 0, api.ErrTruncated
}

// character returns the byte for which the character stands that s begins with, and the length of the character.
func character(s string) (byte, int, api.Errno) {
	switch {
	case s[0] < ' ':
		return 0, 0, api.ErrSyntax
	case s[0] != '\\':
		return s[0], 1, api.OK
	case len(s) == 1:
		return 0, 0, api.ErrTruncated
	}
	switch s[1] {
	case '"', '\\':
		return s[1], 2, api.OK
	case 'n':
		return '\n', 2, api.OK
	case 't':
		return '\t', 2, api.OK
	case 'x':
		c, e := hexByte(s[2:])
		return c, 4, e
	}
	return 0, 0, api.ErrSyntax
}

// hexByte returns the byte that the two digits denote that s begins with.
func hexByte(s string) (byte, api.Errno) {
	var c byte
	for i := range 2 {
		if i == len(s) {
			return 0, api.ErrTruncated
		}
		digit, e := strconv.ParseUint(s[i:i+1], 16, 8)
		if e != nil {
			return 0, api.ErrSyntax
		}
		c = 16*c + byte(digit)
	}
	return c, api.OK
}
