package redfa_test

import (
	"fmt"
	"slices"
	"strings"

	"texttools/api"
)

// An instSet has the numbers of instructions.
type instSet map[int]bool

func (set instSet) list() []int {
	var list []int
	for number := range set {
		list = append(list, number)
	}
	slices.Sort(list)
	return list
}

func has(set api.Charset, c int) bool {
	return strings.IndexByte(bytesOf(set), byte(c)) >= 0
}

// sameClass reports whether two bytes are in the same class of the automaton of a program.
func sameClass(p api.ReProg, sets []string, x, y int) bool {
	if x == y {
		return true
	}
	if p.Lines && (x == '\n' || y == '\n') {
		return false
	}
	for _, set := range sets {
		if (strings.IndexByte(set, byte(x)) >= 0) != (strings.IndexByte(set, byte(y)) >= 0) {
			return false
		}
	}
	return true
}

// classesOfProgram returns Class and the bytes of each class.
func classesOfProgram(p api.ReProg) (string, [][]int) {
	var sets []string
	for _, inst := range p.Insts {
		if inst.Op == api.InSet {
			sets = append(sets, bytesOf(inst.Set))
		}
	}
	class := make([]byte, 256)
	var members [][]int
next:
	for c := range 256 {
		for k := range members {
			if sameClass(p, sets, members[k][0], c) {
				class[c] = byte(k)
				members[k] = append(members[k], c)
				continue next
			}
		}
		class[c] = byte(len(members))
		members = append(members, []int{c})
	}
	return string(class), members
}

// A definedState is a state as the chapter defines it.
type definedState struct {
	set  instSet
	flag bool
}

func (s definedState) name() string {
	return fmt.Sprint(s.set.list(), s.flag)
}

// closureOf adds to the set until nothing is added any more.
func closureOf(p api.ReProg, s definedState, atEnd, atLineFeed bool) instSet {
	all := instSet{}
	for number := range s.set {
		all[number] = true
	}
	for size := -1; size != len(all); {
		size = len(all)
		for _, number := range all.list() {
			inst := p.Insts[number]
			switch {
			case inst.Op == api.InSplit:
				all[inst.X], all[inst.Y] = true, true
			case inst.Op == api.InJump:
				all[inst.X] = true
			case inst.Op == api.InBegin && s.flag, inst.Op == api.InEnd && (atEnd || p.Lines && atLineFeed):
				all[number+1] = true
			}
		}
	}
	return all
}

// definedDfa returns the automaton of a valid program by the chapter's definitions, or false if it has more than most states.
func definedDfa(p api.ReProg, most int) (api.Dfa, bool) {
	class, members := classesOfProgram(p)
	d := api.Dfa{Class: class, Classes: len(members) + 1, Lines: p.Lines}
	states := []definedState{{instSet{0: true}, true}, {instSet{0: true}, false}}
	numbers := map[string]int{states[0].name(): 0, states[1].name(): 1}
	for done := 0; done < len(states); done++ {
		var next []int
		var accept []bool
		for class := range len(members) + 1 {
			atEnd := class == len(members)
			atLineFeed := !atEnd && members[class][0] == '\n' && p.Lines
			closure := closureOf(p, states[done], atEnd, atLineFeed)
			matches := false
			after := definedState{instSet{}, atLineFeed}
			for number := range closure {
				inst := p.Insts[number]
				matches = matches || inst.Op == api.InMatch
				if inst.Op == api.InSet && !atEnd && has(inst.Set, members[class][0]) {
					after.set[number+1] = true
				}
			}
			accept = append(accept, matches)
			if len(after.set) == 0 {
				next = append(next, -1)
				continue
			}
			number, ok := numbers[after.name()]
			if !ok {
				number = len(states)
				numbers[after.name()] = number
				states = append(states, after)
			}
			next = append(next, number)
		}
		d.Next, d.Accept = append(d.Next, next), append(d.Accept, accept)
		if len(states) > most {
			return api.Dfa{}, false
		}
	}
	return d, true
}

const endOfString = -1

// accepts reports whether a state of a valid automaton accepts w before c, a byte or the end.
func accepts(d api.Dfa, state int, w string, c int) bool {
	if state < 0 {
		return false
	}
	if w == "" {
		if c == endOfString {
			return d.Accept[state][d.Classes-1]
		}
		return d.Accept[state][d.Class[c]]
	}
	return accepts(d, d.Next[state][d.Class[w[0]]], w[1:], c)
}

// definedLongest returns what Longest must return for a valid automaton.
func definedLongest(d api.Dfa, s string, at int) (int, bool) {
	if at < 0 || at > len(s) {
		return 0, false
	}
	first := 1
	if at == 0 || d.Lines && s[at-1] == '\n' {
		first = 0
	}
	for end := len(s); end >= at; end-- {
		c := endOfString
		if end < len(s) {
			c = int(s[end])
		}
		if accepts(d, first, s[at:end], c) {
			return end, true
		}
	}
	return 0, false
}

// oneOfEach returns a byte of each of the classes that both automata tell apart.
func oneOfEach(x, y api.Dfa) []int {
	var list []int
	seen := map[[2]byte]bool{}
	for c := range 256 {
		key := [2]byte{x.Class[c], y.Class[c]}
		if !seen[key] {
			seen[key] = true
			list = append(list, c)
		}
	}
	return list
}

// after returns the state that follows; -1 if there is none.
func after(d api.Dfa, state, c int) int {
	if state < 0 {
		return -1
	}
	return d.Next[state][d.Class[c]]
}

// A differing has the pairs of states of two valid automata that do not accept the same; -1 accepts nothing.
type differing map[[2]int]bool

func differingStates(x, y api.Dfa) differing {
	differ := differing{}
	bytes := oneOfEach(x, y)
	for size := -1; size != len(differ); {
		size = len(differ)
		for i := -1; i < len(x.Next); i++ {
			for k := -1; k < len(y.Next); k++ {
				if accepts(x, i, "", endOfString) != accepts(y, k, "", endOfString) {
					differ[[2]int{i, k}] = true
				}
				for _, c := range bytes {
					if accepts(x, i, "", c) != accepts(y, k, "", c) || differ[[2]int{after(x, i, c), after(y, k, c)}] {
						differ[[2]int{i, k}] = true
					}
				}
			}
		}
	}
	return differ
}

// definedMinimal returns what Minimize must return for a valid automaton: that nothing changes any more, as P12.7 asks, when the states of P12.4 are taken once more.
func definedMinimal(d api.Dfa) api.Dfa {
	for {
		minimal := remainingStates(d)
		if equalDfas(minimal, d) {
			return minimal
		}
		d = minimal
	}
}

// remainingStates returns the automaton that has the states of P12.4, where states can be reached by Next of the argument.
func remainingStates(d api.Dfa) api.Dfa {
	differ := differingStates(d, d)
	reached := map[int]bool{0: true, 1: true}
	for size := -1; size != len(reached); {
		size = len(reached)
		for s := range d.Next {
			for _, next := range d.Next[s] {
				if reached[s] && next >= 0 {
					reached[next] = true
				}
			}
		}
	}
	// least returns the least state that can be reached and is equivalent.
	least := func(s int) int {
		other := 0
		for !reached[other] || differ[[2]int{s, other}] {
			other++
		}
		return other
	}
	dead := func(s int) bool { return !differ[[2]int{s, -1}] }
	var kept []int
	for s := range d.Next {
		if s < 2 || reached[s] && !dead(s) && least(s) == s {
			kept = append(kept, s)
		}
	}
	minimal := api.Dfa{Class: d.Class, Classes: d.Classes, Lines: d.Lines}
	for _, s := range kept {
		var next []int
		for _, to := range d.Next[s] {
			if to >= 0 && !dead(to) {
				next = append(next, slices.Index(kept, least(to)))
			} else {
				next = append(next, -1)
			}
		}
		minimal.Next, minimal.Accept = append(minimal.Next, next), append(minimal.Accept, slices.Clone(d.Accept[s]))
	}
	return minimal
}

// definedSame returns what Same must return for two valid automata.
func definedSame(x, y api.Dfa) bool {
	differ := differingStates(x, y)
	return x.Lines == y.Lines && !differ[[2]int{0, 0}] && !differ[[2]int{1, 1}]
}
