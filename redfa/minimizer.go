package redfa

import (
	"slices"

	"texttools/api"
)

// A minimizer knows which states of a valid automaton are equivalent.
type minimizer struct {
	d api.Dfa
	// block has a number for each state; equivalent states have the same one.
	block []int
	// least has for each block the least state that can be reached; nothing for blocks without one, and for that of the dead states.
	least map[int]int
}

func newMinimizer(d api.Dfa) minimizer {
	block, dead := blocksOf(d)
	m := minimizer{d, block, map[int]int{}}
	reached := reachedStates(d)
	for s := len(block) - 1; s >= 0; s-- {
		if reached[s] {
			m.least[block[s]] = s
		}
	}
	delete(m.least, dead)
	return m
}

// reachedStates reports for each state whether it can be reached from 0 or 1.
func reachedStates(d api.Dfa) []bool {
	reached := make([]bool, len(d.Next))
	reached[0], reached[1] = true, true
	waiting := []int{0, 1}
	for len(waiting) > 0 {
		last := len(waiting) - 1
		s := waiting[last]
		waiting = waiting[:last]
		for _, next := range d.Next[s] {
			if next >= 0 && !reached[next] {
				reached[next] = true
				waiting = append(waiting, next)
			}
		}
	}
	return reached
}

// kept returns the states of the minimal automaton, ascending.
func (m minimizer) kept() []int {
	kept := []int{0, 1}
	for _, s := range m.least {
		if s > 1 {
			kept = append(kept, s)
		}
	}
	slices.Sort(kept)
	return kept
}

// next returns the elements of Next of the minimal automaton for an old state; number has the new numbers of the states that are kept.
func (m minimizer) next(s int, number map[int]int) []int {
	row := make([]int, m.d.Classes)
	for class, old := range m.d.Next[s] {
		row[class] = -1
		if old < 0 {
			continue
		}
		if least, alive := m.least[m.block[old]]; alive {
			row[class] = number[least]
		}
	}
	return row
}
