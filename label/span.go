package label

import (
	"slices"

	"pipeline/api"
)

// The state of a name among labels is the number of the label that has this name, or one of these.
const (
	absent = -2 // no label has the name
	bare   = -1 // the label is the name alone
)

// span is the states from low to high. The states that a requirement permits are always such a span.
type span struct{ low, high int }

func (s span) empty() bool { return s.low > s.high }

// and returns the states that are in both spans.
func (s span) and(t span) span { return span{max(s.low, t.low), min(s.high, t.high)} }

// includes reports whether all states of t, which is not empty, are in s.
func (s span) includes(t span) bool { return s.low <= t.low && t.high <= s.high }

// includesOneOf reports whether one of the states of a name, ascending, is in s. There are none if no label has the name.
func (s span) includesOneOf(states []int) bool {
	if len(states) == 0 {
		return s.low == absent
	}
	i, _ := slices.BinarySearch(states, s.low)
	return i < len(states) && states[i] <= s.high
}

// spans are the states that are permitted for names. For a name without an entry, all are.
type spans map[string]span

func (all spans) of(name string) span {
	if s, restricted := all[name]; restricted {
		return s
	}
	return span{absent, api.MaxNumber}
}
