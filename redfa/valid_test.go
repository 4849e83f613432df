package redfa_test

import (
	"slices"
	"strings"
	"testing"

	"texttools/api"
	"texttools/redfa"
)

func TestP12_2Valid(t *testing.T) {
	var all []byte
	for c := range 256 {
		all = append(all, byte(c))
	}
	none := func(count int) []int { return slices.Repeat([]int{-1}, count) }
	for _, d := range []api.Dfa{
		dfaOf(classesOf(), "- - nn", "- - nn"),
		dfaOf(classesOf(), "1 - ny", "0 - yn"),
		withLines(dfaOf(classesOf(), "1 - ny", "0 - yn")),
		dfaOf(classesOf("a"), "- 1 - yyy", "0 1 - yny"),
		// States that cannot be reached, and classes without a byte.
		dfaOf(classesOf("a"), "- - - yyy", "- - - yny", "2 3 - nnn", "0 1 - yyy"),
		dfaOf(classesOf(), "- 1 0 - yyyy", "0 1 1 - ynyn"),
		dfaOf(strings.Repeat("\x01", 256), "- 1 0 - yyyy", "0 1 1 - ynyn"),
		// The classes need not be numbered in the order of their bytes.
		dfaOf(strings.Repeat("\x01", 100)+strings.Repeat("\x00", 156), "- 1 - yyy", "0 1 - yny"),
		{Class: string(all), Classes: 257, Next: [][]int{none(257), none(257)}, Accept: [][]bool{make([]bool, 257), make([]bool, 257)}},
		{Class: classesOf("a"), Classes: 257, Next: [][]int{none(257), none(257)}, Accept: [][]bool{make([]bool, 257), make([]bool, 257)}},
		{Class: classesOf(), Classes: 2, Next: slices.Repeat([][]int{{511, -1}}, 512), Accept: slices.Repeat([][]bool{{true, false}}, 512)},
	} {
		if !redfa.Valid(d) {
			t.Errorf("Valid(%s) = false", showDfa(d))
		}
	}
}

func TestP12_2NotValid(t *testing.T) {
	for _, d := range notValidDfas() {
		if redfa.Valid(d) {
			t.Errorf("Valid(%s) = true", showDfa(d))
		}
	}
}

// TestP12_2EachElement has an automaton with one wrong element, at each place.
func TestP12_2EachElement(t *testing.T) {
	good := validDfa(classesOf("a", "b"), "- 1 2 - yyyn", "0 1 - - ynyy", "2 2 2 - nnnn")
	for c := range 256 {
		d := good
		d.Class = good.Class[:c] + "\x03" + good.Class[c+1:]
		if redfa.Valid(d) {
			t.Errorf("the byte %d may have the class of the end", c)
		}
	}
	for s := range 3 {
		for k := range 4 {
			for _, value := range []int{-2, 3, -1, 2} {
				d := copyOfDfa(good)
				d.Next[s][k] = value
				want := value == -1 || value == 2 && k < 3
				if got := redfa.Valid(d); got != want {
					t.Errorf("Next[%d][%d] = %d: Valid is %v", s, k, value, got)
				}
			}
		}
		for _, count := range []int{0, 1, 3, 5} {
			d, e := copyOfDfa(good), copyOfDfa(good)
			d.Next[s], e.Accept[s] = slices.Repeat([]int{-1}, count), make([]bool, count)
			if redfa.Valid(d) || redfa.Valid(e) {
				t.Errorf("rows of %d elements are valid", count)
			}
		}
	}
}
