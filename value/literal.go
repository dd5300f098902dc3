package value

import (
	"strconv"

	"pipeline/api"
)

const hexDigits = "0123456789abcdef"

// Show returns the literal of a value.
func Show(v api.Value) string {
	if Valid(v) != api.OK {
		return ""
	}
	return string(appendLiteral(nil, v))
}

// Text returns the text of a scalar.
func Text(v api.Value) (string, api.Errno) {
	if compound(v) {
		return "", api.ErrType
	}
	if e := Valid(v); e != api.OK {
		return "", e
	}
	switch v.Kind {
	case api.VNull:
		return "", api.OK
	case api.VString:
		return v.Str, api.OK
	}
	return string(appendLiteral(nil, v)), api.OK
}

// appendLiteral appends the literal of a valid value.
func appendLiteral(b []byte, v api.Value) []byte {
	switch v.Kind {
	case api.VNull:
		return append(b, "null"...)
	case api.VBool:
		return strconv.AppendBool(b, v.Bool)
	case api.VInt:
		return strconv.AppendInt(b, int64(v.Int), 10)
	case api.VString:
		return appendString(b, v.Str)
	case api.VList:
		return append(appendElements(append(b, '['), v), ']')
	}
	return append(appendElements(append(b, '{'), v), '}')
}

// appendElements appends what stands between the brackets of a list, or the braces of a map.
func appendElements(b []byte, v api.Value) []byte {
	for i, element := range v.List {
		if i > 0 {
			b = append(b, ", "...)
		}
		if v.Kind == api.VMap {
			b = append(appendString(b, v.Keys[i]), ": "...)
		}
		b = appendLiteral(b, element)
	}
	return b
}

func appendString(b []byte, s string) []byte {
	b = append(b, '"')
	for i := range len(s) {
		b = appendByte(b, s[i])
	}
	return append(b, '"')
}

func appendByte(b []byte, c byte) []byte {
	switch {
	case c == '"' || c == '\\':
		return append(b, '\\', c)
	case c == '\n':
		return append(b, `\n`...)
	case c == '\t':
		return append(b, `\t`...)
	case c < ' ' || c > '~':
		return append(b, '\\', 'x', hexDigits[c>>4], hexDigits[c&15])
	}
	return append(b, c)
}
