package glob

// state is a state of a machine: the bytes of step lead to the next state, and those of loop back to it.
type state struct{ step, loop set }

// machine reads a string byte by byte, from its first state on. The string matches if the machine can be in its last state at the end; that state has no step.
type machine []state

// newMachine returns the machine of the strings that match a pattern with these elements.
func newMachine(elements []element) machine {
	m := make(machine, 1, len(elements)+1)
	for _, x := range elements {
		last := &m[len(m)-1]
		if x.many {
			last.loop = last.loop.union(x.accepts)
			continue
		}
		last.step = x.accepts
		m = append(m, state{})
	}
	return m
}

const wordBits = 64

// states is a set of states: the state i is bit i%64 of the word i/64.
type states []uint64

func (m machine) noStates() states { return make(states, (len(m)+wordBits-1)/wordBits) }

func (s states) add(i int) { s[i/wordBits] |= 1 << (i % wordBits) }

func (s states) has(i int) bool { return s[i/wordBits]>>(i%wordBits)&1 == 1 }

// matches follows all ways through the machine at once: to try one after the other could take forever.
func (m machine) matches(s string) bool {
	var known [256]*moves
	current := m.noStates()
	current.add(0)
	for i := range len(s) {
		c := s[i]
		if known[c] == nil {
			known[c] = m.movesBy(c)
		}
		if !current.move(known[c]) {
			return false
		}
	}
	return current.has(len(m) - 1)
}

// moves are the states from which one byte leads on, and those from which it leads back.
type moves struct{ steps, loops states }

func (m machine) movesBy(c byte) *moves {
	by := moves{m.noStates(), m.noStates()}
	for i := range m {
		if m[i].step.has(c) {
			by.steps.add(i)
		}
		if m[i].loop.has(c) {
			by.loops.add(i)
		}
	}
	return &by
}

// move replaces the states by those to which a byte leads from them, and reports whether there are any.
func (s states) move(by *moves) bool {
	var all, carry uint64
	for w, word := range s {
		steps := word & by.steps[w]
		s[w] = word&by.loops[w] | steps<<1 | carry
		carry = steps >> (wordBits - 1)
		all |= s[w]
	}
	return all != 0
}

// pair is a state of the product of two machines: the index of the state of each.
type pair struct{ a, b int }

// overlaps reports whether some string matches both: it searches the product of the machines for the pair of their last states.
func (m machine) overlaps(other machine) bool {
	start, end := pair{}, pair{len(m) - 1, len(other) - 1}
	found := start == end
	// There may be 2^24 pairs: the map holds, for a state of m, all states of other that were found with it.
	seen := map[int]states{}
	waiting := []pair{start}
search:
	for len(waiting) > 0 {
		p := waiting[len(waiting)-1]
		waiting = waiting[:len(waiting)-1]
		for _, next := range m.following(other, p) {
			if next == end {
				found = true
				break search
			}
			if seen[next.a] == nil {
				seen[next.a] = other.noStates()
			}
			if !seen[next.a].has(next.b) {
				seen[next.a].add(next.b)
				waiting = append(waiting, next)
			}
		}
	}
	return found
}

// following returns the pairs to which one byte leads from p. The last one, which is searched first, is the nearest to the end.
func (m machine) following(other machine, p pair) []pair {
	var next []pair
	x, y := &m[p.a], &other[p.b]
	if x.loop.meets(y.step) {
		next = append(next, pair{p.a, p.b + 1})
	}
	if x.step.meets(y.loop) {
		next = append(next, pair{p.a + 1, p.b})
	}
	if x.step.meets(y.step) {
		next = append(next, pair{p.a + 1, p.b + 1})
	}
	return next
}
