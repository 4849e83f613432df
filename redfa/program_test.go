package redfa_test

import (
	"fmt"
	"math/rand"
	"slices"
	"strconv"
	"strings"

	"texttools/api"
	"texttools/reprog"
)

func simple(op int) api.ReInst {
	return api.ReInst{Op: op}
}

// instsOf returns the instructions of a list like "split 1 2, set ab, match", in which the word set is followed by the bytes themselves, and a line feed is written as \n.
func instsOf(list string) []api.ReInst {
	var insts []api.ReInst
	for _, text := range strings.Split(list, ", ") {
		words := append(strings.Fields(text), "", "")
		x, _ := strconv.Atoi(words[1])
		y, _ := strconv.Atoi(words[2])
		switch words[0] {
		case "set":
			bytes := strings.ReplaceAll(words[1], `\n`, "\n")
			insts = append(insts, api.ReInst{Op: api.InSet, Set: charsetOf(bytes)})
		case "split":
			insts = append(insts, api.ReInst{Op: api.InSplit, X: x, Y: y})
		case "jump":
			insts = append(insts, api.ReInst{Op: api.InJump, X: x})
		case "begin":
			insts = append(insts, simple(api.InBegin))
		case "end":
			insts = append(insts, simple(api.InEnd))
		case "match":
			insts = append(insts, simple(api.InMatch))
		default:
			panic("the instruction " + text + " of a test")
		}
	}
	return insts
}

// programOf returns the program of instructions that are written as for instsOf. It must be valid.
func programOf(list string, lines bool) api.ReProg {
	p := api.ReProg{Insts: instsOf(list), Lines: lines}
	if !reprog.Valid(p) {
		panic("the program " + list + " of a test")
	}
	return p
}

// showProgram writes all fields of a program for the messages of tests.
func showProgram(p api.ReProg) string {
	var texts []string
	for i, inst := range p.Insts {
		texts = append(texts, fmt.Sprintf("%d: %d %.40q %d %d", i, inst.Op, bytesOf(inst.Set), inst.X, inst.Y))
	}
	return fmt.Sprintf("(%.900s, lines %v)", strings.Join(texts, ", "), p.Lines)
}

func copyOfProgram(p api.ReProg) api.ReProg {
	return api.ReProg{Insts: slices.Clone(p.Insts), Lines: p.Lines}
}

// randomProgram returns a valid program of up to most instructions, with any numbers in the fields that are not looked at.
func randomProgram(random *rand.Rand, most int) api.ReProg {
	count := 1 + random.Intn(most)
	p := api.ReProg{Lines: random.Intn(2) == 0}
	for i := range count {
		inst := api.ReInst{Op: []int{1, 1, 1, 2, 2, 3, 4, 5, 6}[random.Intn(9)], Set: randomSet(random), X: randomNumber(random), Y: randomNumber(random)}
		if i == count-1 {
			inst.Op = []int{api.InSplit, api.InJump, api.InMatch, api.InMatch}[random.Intn(4)]
		}
		if inst.Op == api.InSplit || inst.Op == api.InJump {
			inst.X = random.Intn(count)
		}
		if inst.Op == api.InSplit {
			inst.Y = random.Intn(count)
		}
		p.Insts = append(p.Insts, inst)
	}
	return p
}

func randomSet(random *rand.Rand) api.Charset {
	return charsetOf([]string{"a", "a", "b", "b", "ab", "ab\n", "\n", "a\n", "", "c"}[random.Intn(10)])
}

func randomNumber(random *rand.Rand) int {
	return []int{0, 1, 2, -1, -2, 4095, 4096, leastInt, greatestInt, random.Intn(9)}[random.Intn(10)]
}

// notValid returns programs that are not valid, though they would match where a simulation did not look at it.
func notValid() []api.ReProg {
	match := simple(api.InMatch)
	split := func(x, y int) api.ReInst { return api.ReInst{Op: api.InSplit, X: x, Y: y} }
	lists := [][]api.ReInst{
		nil,
		{},
		slices.Repeat([]api.ReInst{match}, 4097),
		slices.Repeat([]api.ReInst{match}, 10000),
		append(slices.Repeat([]api.ReInst{simple(api.InBegin)}, 4096), match),
		{match, simple(api.InEnd)},
		{match, simple(api.InBegin)},
		{match, simple(api.InSet)},
		{split(1, 2), match, {Op: api.InSet, Set: charsetOf("a")}},
		{{Op: api.InSet, Set: charsetOf("a")}},
		{simple(api.InBegin)},
		{simple(api.InEnd)},
		{match, {Op: api.InJump, X: 2}},
		{match, {Op: api.InJump, X: -1}},
		{split(1, 2), match},
		{split(2, 1), match},
		{split(1, -1), match},
		{split(-1, 1), match},
		{split(1, greatestInt), match},
		{split(leastInt, 1), match},
		{match, split(0, 2)},
		{{Op: api.InJump, X: 1}, match, simple(0)},
	}
	for _, op := range []int{leastInt, -1, 0, 7, 8, 256 + 6, 1<<32 + 6, greatestInt} {
		lists = append(lists, []api.ReInst{match, simple(op)}, []api.ReInst{simple(op), match}, []api.ReInst{simple(op)})
	}
	var programs []api.ReProg
	for _, insts := range lists {
		programs = append(programs, api.ReProg{Insts: insts}, api.ReProg{Insts: insts, Lines: true})
	}
	return programs
}
