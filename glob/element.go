package glob

import (
	"math"
	"strings"

	"pipeline/api"
)

// set is a set of bytes: the byte c is bit c%64 of the word c/64.
type set [4]uint64

func (s *set) add(c byte) { s[c/64] |= 1 << (c % 64) }

func (s *set) remove(c byte) { s[c/64] &^= 1 << (c % 64) }

func (s set) has(c byte) bool { return s[c/64]>>(c%64)&1 == 1 }

// meets reports whether s and other have a byte in common.
func (s set) meets(other set) bool {
	return s[0]&other[0]|s[1]&other[1]|s[2]&other[2]|s[3]&other[3] != 0
}

// union returns the bytes of s and of other.
func (s set) union(other set) set {
	for i := range s {
		s[i] |= other[i]
	}
	return s
}

func everyByte() set {
	return set{math.MaxUint64, math.MaxUint64, math.MaxUint64, math.MaxUint64}
}

func noSlash() set {
	s := everyByte()
	s.remove('/')
	return s
}

// element is an element of a pattern. It matches one byte of accepts, or, if many, any number of them. A literal element matches char.
type element struct {
	accepts set
	many    bool
	literal bool
	char    byte
}

func literalElement(c byte) element {
	x := element{literal: true, char: c}
	x.accepts.add(c)
	return x
}

// parse returns the elements of a pattern. Errors: those of Valid.
func parse(pattern string) ([]element, api.Errno) {
	if len(pattern) > api.MaxString {
		return nil, api.ErrTooLong
	}
	elements := make([]element, 0, len(pattern))
	for rest := pattern; rest != ""; {
		x, size, ok := first(rest)
		if !ok {
			return nil, api.ErrSyntax
		}
		elements = append(elements, x)
		rest = rest[size:]
	}
	return elements, api.OK
}

// first returns the element with which a string that is not empty begins, and the number of its bytes.
func first(s string) (element, int, bool) {
	if strings.HasPrefix(s, "**") {
		return element{accepts: everyByte(), many: true}, 2, true
	}
	switch s[0] {
	case '*':
		return element{accepts: noSlash(), many: true}, 1, true
	case '?':
		return element{accepts: noSlash()}, 1, true
	case '[':
		return class(s)
	case '\\':
		if len(s) == 1 {
			return element{}, 0, false
		}
		return literalElement(s[1]), 2, true
	}
	return literalElement(s[0]), 1, true
}

// class returns the class with which s begins, and the number of its bytes.
func class(s string) (element, int, bool) {
	var accepts set
	rest := s[1:]
	for rest != "" && rest[0] != ']' {
		low, high, size, ok := item(rest)
		if !ok {
			return element{}, 0, false
		}
		for c := int(low); c <= int(high); c++ { // as int: a byte would not pass 255
			accepts.add(byte(c))
		}
		rest = rest[size:]
	}
	size := len(s) - len(rest) + 1 // with the bracket at the end
	if rest == "" || size == len("[]") {
		return element{}, 0, false
	}
	accepts.remove('/')
	return element{accepts: accepts}, size, true
}

// item returns the first and the last byte of the item with which s begins, and the number of its bytes.
func item(s string) (byte, byte, int, bool) {
	low, size, ok := itemByte(s)
	if !ok || size == len(s) || s[size] != '-' {
		return low, low, size, ok
	}
	high, more, ok := itemByte(s[size+1:])
	return low, high, size + 1 + more, ok && low <= high
}

// itemByte returns the byte of an item with which s begins, and the number of bytes that it is written with.
func itemByte(s string) (byte, int, bool) {
	if s == "" || s[0] == ']' || s[0] == '-' {
		return 0, 0, false
	}
	if s[0] != '\\' {
		return s[0], 1, true
	}
	if len(s) == 1 {
		return 0, 0, false
	}
	return s[1], 2, true
}
