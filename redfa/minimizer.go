package redfa

import "texttools/api"

// leastNext returns Next of a valid automaton with the least of the equivalent states that can be reached in place of each state, and -1 in place of dead ones.
func leastNext(d api.Dfa) [][]int {
	block, least := leastStates(d)
	next := make([][]int, len(d.Next))
	for s, row := range d.Next {
		next[s] = make([]int, d.Classes)
		for class, old := range row {
			next[s][class] = -1
			if old < 0 {
				continue
			}
			if remaining, alive := least[block[old]]; alive {
				next[s][class] = remaining
			}
		}
	}
	return next
}

// leastStates returns the number of the block of each state, and for each block the least of its states that can be reached; nothing for blocks without one, and for that of the dead states.
func leastStates(d api.Dfa) ([]int, map[int]int) {
	block, dead := blocksOf(d)
	reached := reachedStates(d.Next)
	least := map[int]int{}
	for s := len(block) - 1; s >= 0; s-- {
		if reached[s] {
			least[block[s]] = s
		}
	}
	delete(least, dead)
	return block, least
}

// reachedStates reports for each state whether it can be reached from 0 or 1 by the lists of states that follow.
func reachedStates(next [][]int) []bool {
	reached := make([]bool, len(next))
	reached[0], reached[1] = true, true
	waiting := []int{0, 1}
	for len(waiting) > 0 {
		last := len(waiting) - 1
		s := waiting[last]
		waiting = waiting[:last]
		for _, to := range next[s] {
			if to >= 0 && !reached[to] {
				reached[to] = true
				waiting = append(waiting, to)
			}
		}
	}
	return reached
}

// numbered returns the lists of the states that are kept, with the new numbers of the states; those that follow a state that is kept are kept, too.
func numbered(next [][]int, kept []bool) [][]int {
	number := map[int]int{-1: -1}
	for s := range kept {
		if kept[s] {
			number[s] = len(number) - 1
		}
	}
	var rows [][]int
	for s, row := range next {
		if !kept[s] {
			continue
		}
		for class, to := range row {
			row[class] = number[to]
		}
		rows = append(rows, row)
	}
	return rows
}
