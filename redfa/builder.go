package redfa

import (
	"texttools/api"
	"texttools/charset"
)

// A state is a set of instructions. Its flag begin is true where the input, or with Lines a line, begins.
type state struct {
	set   instSet
	begin bool
}

// A builder finds the states of the automaton of a valid program.
type builder struct {
	p     api.ReProg
	class [256]byte
	// takers has the instructions InSet that take the bytes of each class.
	takers []instSet
	// lineFeed is the class of the line feed with Lines; -1 without.
	lineFeed int
	matches  instSet
	// states has what was found so far; numbers has the index of each of them.
	states  []state
	numbers map[state]int
}

func newBuilder(p api.ReProg) *builder {
	b := &builder{p: p, lineFeed: -1, numbers: map[state]int{}}
	b.classify()
	for i, inst := range p.Insts {
		if inst.Op == api.InMatch {
			b.matches.add(i)
		}
	}
	var first state
	first.set.add(0)
	b.number(state{first.set, true})
	b.number(first)
	return b
}

// classify divides the bytes into classes, which it finds in the order of their least bytes.
func (b *builder) classify() {
	classes := map[instSet]int{}
	for c := range len(b.class) {
		takers := takersOf(b.p, byte(c))
		class, known := classes[takers]
		alone := b.p.Lines && c == '\n'
		if alone || !known {
			class = len(b.takers)
			b.takers = append(b.takers, takers)
		}
		if alone {
			b.lineFeed = class
		} else {
			classes[takers] = class
		}
		b.class[c] = byte(class)
	}
}

// takersOf returns the instructions InSet that take the byte c.
func takersOf(p api.ReProg, c byte) instSet {
	var takers instSet
	for i, inst := range p.Insts {
		if inst.Op == api.InSet && charset.Has(inst.Set, c) {
			takers.add(i)
		}
	}
	return takers
}

// end returns the class of the end of the string.
func (b *builder) end() int {
	return len(b.takers)
}

// number returns the number of a state, which it gives to the state if that has none.
func (b *builder) number(s state) int {
	number, known := b.numbers[s]
	if !known {
		number = len(b.states)
		b.numbers[s] = number
		b.states = append(b.states, s)
	}
	return number
}

// rows returns the elements of Next and of Accept for a state.
func (b *builder) rows(s state) ([]int, []bool) {
	// The closures before all classes are one of these two.
	inside, ended := b.closure(s, false), b.closure(s, true)
	next, accept := make([]int, b.end()+1), make([]bool, b.end()+1)
	for class := range next {
		closure := &inside
		if class == b.end() || class == b.lineFeed {
			closure = &ended
		}
		accept[class] = closure.intersect(&b.matches) != instSet{}
		next[class] = b.follow(closure, class)
	}
	return next, accept
}

// closure returns the closure of a state; ended is true before the end of the input, or with Lines of a line.
func (b *builder) closure(s state, ended bool) instSet {
	reached := s.set
	waiting := reached.list()
	reach := func(i int) {
		if !reached.has(i) {
			reached.add(i)
			waiting = append(waiting, i)
		}
	}
	for len(waiting) > 0 {
		last := len(waiting) - 1
		i := waiting[last]
		waiting = waiting[:last]
		switch inst := b.p.Insts[i]; inst.Op {
		case api.InSplit:
			reach(inst.X)
			reach(inst.Y)
		case api.InJump:
			reach(inst.X)
		case api.InBegin:
			if s.begin {
				reach(i + 1)
			}
		case api.InEnd:
			if ended {
				reach(i + 1)
			}
		}
	}
	return reached
}

// follow returns the number of the state that follows after a class; -1 if there is none.
func (b *builder) follow(closure *instSet, class int) int {
	if class == b.end() {
		return -1
	}
	taken := closure.intersect(&b.takers[class])
	after := state{set: taken.following(), begin: class == b.lineFeed}
	if after.set == (instSet{}) {
		return -1
	}
	return b.number(after)
}
