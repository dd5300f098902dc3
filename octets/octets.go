// Package octets is layer 2: canonical binary fields. See shared/doc/02-octets.md.
package octets

import "pipeline/api"

const (
	groupBits = 7
	more      = 1 << groupBits // set in every byte of a varint but the last one
	lastIndex = 9              // of the tenth byte, which has room for one bit only
)

// PutUint returns the varint of n.
func PutUint(n uint64) []byte { return appendUint(nil, n) }

// PutInt returns the signed varint of n.
func PutInt(n int) []byte { return appendInt(nil, n) }

// PutString returns the length of s and its bytes.
func PutString(s string) []byte { return appendString(nil, s) }

// Record returns the number of fields and their encodings. A field that is not valid is written as the number 0.
func Record(fields ...api.Field) []byte {
	b := PutUint(uint64(len(fields)))
	for _, f := range fields {
		if Valid(f) != api.OK {
			f = api.Field{}
		}
		b = appendField(b, f)
	}
	return b
}

func appendUint(b []byte, n uint64) []byte {
	for n >= more {
		b = append(b, byte(n)|more)
		n >>= groupBits
	}
	return append(b, byte(n))
}

func appendInt(b []byte, n int) []byte {
	if n < 0 {
		return appendUint(b, ^(uint64(n) << 1)) // ^x is -x - 1
	}
	return appendUint(b, uint64(n)<<1)
}

func appendString(b []byte, s string) []byte {
	return append(appendUint(b, uint64(len(s))), s...)
}

// appendField appends the encoding of a valid field.
func appendField(b []byte, f api.Field) []byte {
	b = append(b, byte(f.Kind))
	switch f.Kind {
	case api.FInt:
		return appendInt(b, f.Int)
	case api.FString:
		return appendString(b, f.Str)
	}
	b = appendUint(b, uint64(len(f.List)))
	for _, element := range f.List {
		b = appendField(b, element)
	}
	return b
}

// TakeUint returns the number whose varint b begins with, and its length.
func TakeUint(b []byte) (uint64, int, api.Errno) {
	var n uint64
	for i, c := range b {
		if i == lastIndex && c > 1 {
			return 0, 0, api.ErrRange
		}
		if i > 0 && c == 0 {
			return 0, 0, api.ErrSyntax
		}
		n |= uint64(c&^more) << (groupBits * i)
		if c < more {
			return n, i + 1, api.OK
		}
	}
	return 0, 0, api.ErrTruncated
}

// TakeInt returns the number whose signed varint b begins with, and its length.
func TakeInt(b []byte) (int, int, api.Errno) {
	u, size, e := TakeUint(b)
	if e != api.OK {
		return 0, 0, e
	}
	n := int(u >> 1)
	if u%2 == 1 {
		n = -n - 1
	}
	return n, size, api.OK
}

// TakeString returns the string that b begins with, and the length of its encoding.
func TakeString(b []byte) (string, int, api.Errno) {
	length, size, e := TakeUint(b)
	if e != api.OK {
		return "", 0, e
	}
	rest := b[size:]
	if length > uint64(len(rest)) { // compared as uint64: the length need not be an int
		return "", 0, api.ErrTruncated
	}
	return string(rest[:length]), size + int(length), api.OK
}

// Fields returns the fields of which b is the Record.
func Fields(b []byte) ([]api.Field, api.Errno) {
	r := reader{rest: b}
	list, e := r.fields(1)
	if e != api.OK {
		return nil, e
	}
	if len(r.rest) > 0 {
		return nil, api.ErrSyntax
	}
	return list, api.OK
}

// reader takes fields from the beginning of rest.
type reader struct{ rest []byte }

// fields takes a number of fields and then these; nesting is 1 more than the number of lists that contain them.
func (r *reader) fields(nesting int) ([]api.Field, api.Errno) {
	count, size, e := TakeUint(r.rest)
	if e != api.OK {
		return nil, e
	}
	r.rest = r.rest[size:]
	// The list grows with what is read: the count may be far above what follows.
	var list []api.Field
	for range count {
		f, e := r.field(nesting)
		if e != api.OK {
			return nil, e
		}
		list = append(list, f)
	}
	return list, api.OK
}

func (r *reader) field(nesting int) (api.Field, api.Errno) {
	if nesting > api.MaxNest {
		return api.Field{}, api.ErrDepth
	}
	if len(r.rest) == 0 {
		return api.Field{}, api.ErrTruncated
	}
	f := api.Field{Kind: int(r.rest[0])}
	r.rest = r.rest[1:]
	var size int
	var e api.Errno
	switch f.Kind {
	case api.FInt:
		f.Int, size, e = TakeInt(r.rest)
	case api.FString:
		f.Str, size, e = TakeString(r.rest)
	case api.FList:
		f.List, e = r.fields(nesting + 1) // which takes the elements off rest itself
	default:
		e = api.ErrSyntax
	}
	if e != api.OK {
		return api.Field{}, e
	}
	r.rest = r.rest[size:]
	return f, api.OK
}

// Valid checks a field: the error is ErrInvalid, or ErrDepth if it is nested deeper than MaxNest.
func Valid(f api.Field) api.Errno { return validAt(f, 1) }

// validAt checks a field that nesting - 1 lists contain.
func validAt(f api.Field, nesting int) api.Errno {
	if nesting > api.MaxNest {
		return api.ErrDepth
	}
	// Without what belongs to its kind, a field has nothing left.
	others := f
	switch f.Kind {
	case api.FInt:
		others.Int = 0
	case api.FString:
		others.Str = ""
	case api.FList:
		others.List = nil
	default:
		return api.ErrInvalid
	}
	if others.Int != 0 || others.Str != "" || len(others.List) > 0 {
		return api.ErrInvalid
	}
	for _, element := range f.List {
		if e := validAt(element, nesting+1); e != api.OK {
			return e
		}
	}
	return api.OK
}
