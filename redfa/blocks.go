package redfa

import (
	"slices"

	"texttools/api"
)

// A signature is what tells a state from others: elements are about the classes with the same number, or the last one about the state.
type signature [257]uint16

// A partition divides the states of a valid automaton, and one more that accepts nothing, into blocks.
type partition struct {
	d api.Dfa
	// classes are those that have a byte: what a state does after or before the others makes no difference.
	classes []int
	block   []int
}

// blocksOf returns the number of the block of each state, which equivalent states have in common, and that of dead states.
func blocksOf(d api.Dfa) ([]int, int) {
	states := len(d.Next)
	p := partition{d: d, classes: classesOfBytes(d), block: make([]int, states+1)}
	count := p.divide(p.accepting)
	for {
		more := p.divide(p.following)
		if more == count {
			return p.block[:states], p.block[states]
		}
		count = more
	}
}

// classesOfBytes returns the classes that have a byte, ascending.
func classesOfBytes(d api.Dfa) []int {
	var classes []int
	for c := range len(d.Class) {
		classes = append(classes, int(d.Class[c]))
	}
	slices.Sort(classes)
	return slices.Compact(classes)
}

// divide gives the states with the same signature the same block, and returns how many blocks there are.
func (p *partition) divide(sign func(s int) signature) int {
	numbers := map[signature]int{}
	block := make([]int, len(p.block))
	for s := range block {
		key := sign(s)
		number, known := numbers[key]
		if !known {
			number = len(numbers)
			numbers[key] = number
		}
		block[s] = number
	}
	p.block = block
	return len(numbers)
}

// accepting is a signature that has before which classes a match ends in the state.
func (p *partition) accepting(s int) signature {
	var sign signature
	if s == len(p.d.Next) {
		return sign
	}
	for _, class := range p.classes {
		sign[class] = truth(p.d.Accept[s][class])
	}
	end := p.d.Classes - 1
	sign[end] = truth(p.d.Accept[s][end])
	return sign
}

func truth(holds bool) uint16 {
	if holds {
		return 1
	}
	return 0
}

// following is a signature that has the block of the state, and those of the states that follow.
func (p *partition) following(s int) signature {
	var sign signature
	sign[len(sign)-1] = uint16(p.block[s])
	for _, class := range p.classes {
		next := len(p.d.Next)
		if s < next && p.d.Next[s][class] >= 0 {
			next = p.d.Next[s][class]
		}
		sign[class] = uint16(p.block[next])
	}
	return sign
}
