package redfa_test

import (
	"fmt"
	"math/rand"
	"reflect"
	"slices"
	"strconv"
	"strings"
	"testing"

	"texttools/api"
	"texttools/redfa"
)

// classesOf returns a Class in which the bytes of the string i have the class i + 1, and all others the class 0.
func classesOf(sets ...string) string {
	class := make([]byte, 256)
	for i, set := range sets {
		for k := range len(set) {
			class[set[k]] = byte(i + 1)
		}
	}
	return string(class)
}

// dfaOf returns an automaton; a row of a state is like "- 2 - nyy": the elements of Next with a minus sign for -1, and those of Accept as n and y.
func dfaOf(class string, rows ...string) api.Dfa {
	d := api.Dfa{Class: class}
	for _, row := range rows {
		words := strings.Fields(row)
		d.Classes = len(words) - 1
		var next []int
		var accept []bool
		for i, c := range words[d.Classes] {
			to, err := strconv.Atoi(words[i])
			if err != nil {
				to = -1
			}
			next, accept = append(next, to), append(accept, c == 'y')
		}
		d.Next, d.Accept = append(d.Next, next), append(d.Accept, accept)
	}
	return d
}

func withLines(d api.Dfa) api.Dfa {
	d.Lines = true
	return d
}

// validDfa is dfaOf for an automaton that must be valid.
func validDfa(class string, rows ...string) api.Dfa {
	d := dfaOf(class, rows...)
	if !redfa.Valid(d) {
		panic("the automaton " + showDfa(d) + " of a test")
	}
	return d
}

// showDfa writes an automaton for the messages of tests.
func showDfa(d api.Dfa) string {
	var rows []string
	for s := range max(len(d.Next), len(d.Accept)) {
		var next []int
		var accept []bool
		if s < len(d.Next) {
			next = d.Next[s]
		}
		if s < len(d.Accept) {
			accept = d.Accept[s]
		}
		rows = append(rows, fmt.Sprintf("%d: %v %v", s, next, accept))
	}
	return fmt.Sprintf("(%d classes, lines %v, class %.80q, %.1200s)", d.Classes, d.Lines, d.Class, strings.Join(rows, "; "))
}

func copyOfDfa(d api.Dfa) api.Dfa {
	var next [][]int
	var accept [][]bool
	for _, row := range d.Next {
		next = append(next, slices.Clone(row))
	}
	for _, row := range d.Accept {
		accept = append(accept, slices.Clone(row))
	}
	d.Next, d.Accept = next, accept
	return d
}

// equalDfas compares all fields; empty lists are equal to nil.
func equalDfas(x, y api.Dfa) bool {
	rest := func(d api.Dfa) api.Dfa { d.Next, d.Accept = nil, nil; return d }
	return reflect.DeepEqual(rest(x), rest(y)) && slices.EqualFunc(x.Next, y.Next, slices.Equal) && slices.EqualFunc(x.Accept, y.Accept, slices.Equal)
}

func checkDfa(t *testing.T, what string, got, want api.Dfa) {
	t.Helper()
	if !equalDfas(got, want) {
		t.Fatalf("%s = %s; want %s", what, showDfa(got), showDfa(want))
	}
}

// randomDfa returns a valid automaton of up to most states. Some of its classes have no byte.
func randomDfa(random *rand.Rand, most int) api.Dfa {
	states := 2 + random.Intn(most-1)
	classes := 2 + random.Intn(4)
	d := api.Dfa{Classes: classes, Lines: random.Intn(3) == 0}
	class := make([]byte, 256)
	for i, c := range "ab\nc\x00\xff" {
		if i < 5 || random.Intn(2) == 0 {
			class[byte(c)] = byte(random.Intn(classes - 1))
		}
	}
	d.Class = string(class)
	// With few of them, many states are equivalent or dead.
	accepting, leading := 1+random.Intn(4), 1+random.Intn(4)
	for range states {
		next, accept := make([]int, classes), make([]bool, classes)
		for k := range classes {
			next[k] = -1
			if k < classes-1 && random.Intn(5) < leading {
				next[k] = random.Intn(states)
			}
			accept[k] = random.Intn(9) < accepting
		}
		d.Next, d.Accept = append(d.Next, next), append(d.Accept, accept)
	}
	return d
}

// twinned returns an automaton in which states are copies of others: it accepts the same as d.
func twinned(random *rand.Rand, d api.Dfa, copies int) api.Dfa {
	d = copyOfDfa(d)
	twins := make([][]int, len(d.Next))
	for s := range d.Next {
		twins[s] = []int{s}
	}
	for range copies {
		s := random.Intn(len(twins))
		twins[s] = append(twins[s], len(d.Next))
		d.Next, d.Accept = append(d.Next, slices.Clone(d.Next[s])), append(d.Accept, slices.Clone(d.Accept[s]))
	}
	for _, row := range d.Next {
		for k, next := range row {
			if next >= 0 {
				row[k] = twins[next][random.Intn(len(twins[next]))]
			}
		}
	}
	return d
}

// splitClasses returns an automaton that accepts the same as d, with more classes, in another order.
func splitClasses(random *rand.Rand, d api.Dfa) api.Dfa {
	parts := 1 + random.Intn(6)
	class := make([]byte, 256)
	numbers := map[[2]int]int{}
	var olds []int
	for _, c := range random.Perm(256) {
		key := [2]int{int(d.Class[c]), random.Intn(parts)}
		if _, known := numbers[key]; !known {
			numbers[key] = len(olds)
			olds = append(olds, key[0])
		}
		class[c] = byte(numbers[key])
	}
	if random.Intn(2) == 0 {
		// A class without a byte.
		olds = append(olds, random.Intn(d.Classes))
	}
	olds = append(olds, d.Classes-1)
	split := api.Dfa{Class: string(class), Classes: len(olds), Lines: d.Lines}
	for s := range d.Next {
		var next []int
		var accept []bool
		for _, old := range olds {
			next, accept = append(next, d.Next[s][old]), append(accept, d.Accept[s][old])
		}
		split.Next, split.Accept = append(split.Next, next), append(split.Accept, accept)
	}
	return split
}

// notValidDfas returns automata that are not valid, though some of them accept strings.
func notValidDfas() []api.Dfa {
	good := validDfa(classesOf("a"), "- 1 - yyy", "0 1 - yny")
	change := func(do func(d *api.Dfa)) api.Dfa {
		d := copyOfDfa(good)
		do(&d)
		return d
	}
	row := func(count, value int) []int { return slices.Repeat([]int{value}, count) }
	many := change(func(d *api.Dfa) {
		d.Next = slices.Repeat([][]int{row(3, -1)}, 513)
		d.Accept = slices.Repeat([][]bool{{true, true, true}}, 513)
	})
	wide := change(func(d *api.Dfa) {
		d.Classes = 258
		d.Next = [][]int{row(258, -1), row(258, -1)}
		d.Accept = [][]bool{make([]bool, 258), make([]bool, 258)}
	})
	return []api.Dfa{
		{},
		{Class: good.Class},
		{Class: good.Class, Classes: 3},
		many, wide,
		change(func(d *api.Dfa) { d.Class = "" }),
		change(func(d *api.Dfa) { d.Class = d.Class[:255] }),
		change(func(d *api.Dfa) { d.Class += "\x00" }),
		change(func(d *api.Dfa) { d.Class = d.Class[:255] + "\x02" }),
		change(func(d *api.Dfa) { d.Class = "\x02" + d.Class[1:] }),
		change(func(d *api.Dfa) { d.Class = d.Class[:100] + "\xff" + d.Class[101:] }),
		change(func(d *api.Dfa) { d.Classes = 2 }),
		change(func(d *api.Dfa) { d.Classes = 4 }),
		change(func(d *api.Dfa) { d.Classes = 0 }),
		change(func(d *api.Dfa) { d.Classes = 1 }),
		change(func(d *api.Dfa) { d.Classes = -1 }),
		change(func(d *api.Dfa) { d.Classes = leastInt }),
		change(func(d *api.Dfa) { d.Classes = greatestInt }),
		{Class: strings.Repeat("\x00", 256), Classes: 1, Next: [][]int{{-1}, {-1}}, Accept: [][]bool{{true}, {true}}},
		change(func(d *api.Dfa) { d.Next = nil }),
		change(func(d *api.Dfa) { d.Accept = nil }),
		change(func(d *api.Dfa) { d.Next = d.Next[:1] }),
		change(func(d *api.Dfa) { d.Accept = d.Accept[:1] }),
		change(func(d *api.Dfa) { d.Next, d.Accept = d.Next[:1], d.Accept[:1]; d.Next[0][1] = 0 }),
		change(func(d *api.Dfa) { d.Next, d.Accept = nil, nil }),
		change(func(d *api.Dfa) { d.Next = append(d.Next, row(3, -1)) }),
		change(func(d *api.Dfa) { d.Accept = append(d.Accept, make([]bool, 3)) }),
		change(func(d *api.Dfa) { d.Next[1] = nil }),
		change(func(d *api.Dfa) { d.Next[0] = d.Next[0][:2] }),
		change(func(d *api.Dfa) { d.Next[1] = append(d.Next[1], -1) }),
		change(func(d *api.Dfa) { d.Accept[1] = nil }),
		change(func(d *api.Dfa) { d.Accept[0] = d.Accept[0][:2] }),
		change(func(d *api.Dfa) { d.Accept[1] = append(d.Accept[1], true) }),
		change(func(d *api.Dfa) { d.Next[0][0] = 2 }),
		change(func(d *api.Dfa) { d.Next[1][1] = -2 }),
		change(func(d *api.Dfa) { d.Next[1][0] = leastInt }),
		change(func(d *api.Dfa) { d.Next[1][0] = greatestInt }),
		change(func(d *api.Dfa) { d.Next[0][2] = 0 }),
		change(func(d *api.Dfa) { d.Next[1][2] = 1 }),
		change(func(d *api.Dfa) { d.Next[1][2] = -2 }),
	}
}
