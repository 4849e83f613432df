package redfa

import "texttools/api"

// A pair has a state or a class of each of two automata; a state may be -1, which accepts nothing.
type pair struct{ a, b int }

// A comparison supposes that states of two valid automata accept the same, and finds out whether this holds.
type comparison struct {
	a, b api.Dfa
	// classes has the classes of each byte in both automata, without repetition.
	classes []pair
	// parent joins the states of both automata that are supposed to accept the same: it leads from each of them but one to another one of them. The states of a are numbered from 0, those of b after them, and at last -1.
	parent []int
	// waiting has the pairs that were joined, but not compared yet.
	waiting []pair
}

func newComparison(a, b api.Dfa) *comparison {
	c := &comparison{a: a, b: b}
	known := map[pair]bool{}
	for i := range len(a.Class) {
		classes := pair{int(a.Class[i]), int(b.Class[i])}
		if !known[classes] {
			known[classes] = true
			c.classes = append(c.classes, classes)
		}
	}
	for s := range len(a.Next) + len(b.Next) + 1 {
		c.parent = append(c.parent, s)
	}
	return c
}

// root returns the one of the states that are joined with s that leads to no other one.
func (c *comparison) root(s int) int {
	for c.parent[s] != s {
		c.parent[s] = c.parent[c.parent[s]]
		s = c.parent[s]
	}
	return s
}

// suppose joins a state of each automaton.
func (c *comparison) suppose(states pair) {
	none := len(c.parent) - 1
	x, y := none, none
	if states.a >= 0 {
		x = states.a
	}
	if states.b >= 0 {
		y = len(c.a.Next) + states.b
	}
	if x, y = c.root(x), c.root(y); x != y {
		c.parent[y] = x
		c.waiting = append(c.waiting, states)
	}
}

// holds reports whether all states that are supposed to accept the same do so.
func (c *comparison) holds() bool {
	ends := pair{c.a.Classes - 1, c.b.Classes - 1}
	for len(c.waiting) > 0 {
		last := len(c.waiting) - 1
		states := c.waiting[last]
		c.waiting = c.waiting[:last]
		if accepts(c.a, states.a, ends.a) != accepts(c.b, states.b, ends.b) {
			return false
		}
		for _, classes := range c.classes {
			if accepts(c.a, states.a, classes.a) != accepts(c.b, states.b, classes.b) {
				return false
			}
			c.suppose(pair{follow(c.a, states.a, classes.a), follow(c.b, states.b, classes.b)})
		}
	}
	return true
}

// accepts reports whether a match ends in a state before a class.
func accepts(d api.Dfa, s, class int) bool {
	return s >= 0 && d.Accept[s][class]
}

// follow returns the state that follows a state after a class; -1 if there is none.
func follow(d api.Dfa, s, class int) int {
	if s < 0 {
		return -1
	}
	return d.Next[s][class]
}
