package resim_test

import (
	"math/rand"
	"slices"
	"strings"
	"testing"

	"texttools/api"
	"texttools/reprog"
	"texttools/resim"
)

// An instSet has the numbers of instructions.
type instSet map[int]bool

// stepsWithoutByte returns the instructions to which steps without a byte lead from the instruction with this number at the offset i.
func stepsWithoutByte(p api.ReProg, s string, i, number int) []int {
	beginsLine := i == 0 || p.Lines && s[i-1] == '\n'
	endsLine := i == len(s) || p.Lines && s[i] == '\n'
	inst := p.Insts[number]
	switch {
	case inst.Op == api.InJump:
		return []int{inst.X}
	case inst.Op == api.InSplit:
		return []int{inst.X, inst.Y}
	case inst.Op == api.InBegin && beginsLine, inst.Op == api.InEnd && endsLine:
		return []int{number + 1}
	}
	return nil
}

// reached adds to the set what is reached from it by steps without a byte at the offset i, until nothing is added any more.
func reached(p api.ReProg, s string, i int, from instSet) instSet {
	for size := -1; size != len(from); {
		size = len(from)
		for number := range p.Insts {
			if !from[number] {
				continue
			}
			for _, next := range stepsWithoutByte(p, s, i, number) {
				from[next] = true
			}
		}
	}
	return from
}

// allThreads returns, for a valid program, the threads after s[at:end] from at on for all ends, the first of which is at.
func allThreads(p api.ReProg, s string, at int) []instSet {
	list := []instSet{reached(p, s, at, instSet{0: true})}
	for i := at; i < len(s); i++ {
		after := instSet{}
		for number := range list[i-at] {
			inst := p.Insts[number]
			if inst.Op == api.InSet && strings.IndexByte(bytesOf(inst.Set), s[i]) >= 0 {
				after[number+1] = true
			}
		}
		list = append(list, reached(p, s, i+1, after))
	}
	return list
}

// A table has what the functions of the package return for a program and a string, by the chapter's definitions.
type table struct {
	// threads has the result of Threads for each at and each end - at.
	threads [][][]int
	// ends has the ends of the matches from each offset, ascending.
	ends [][]int
}

func tableOf(p api.ReProg, s string) table {
	var all table
	for at := range len(s) + 1 {
		var threads [][]int
		var ends []int
		for k, list := range allThreads(p, s, at) {
			var numbers []int
			matches := false
			for number, inst := range p.Insts {
				if list[number] && (inst.Op == api.InSet || inst.Op == api.InMatch) {
					numbers = append(numbers, number)
					matches = matches || inst.Op == api.InMatch
				}
			}
			threads = append(threads, numbers)
			if matches {
				ends = append(ends, at+k)
			}
		}
		all.threads, all.ends = append(all.threads, threads), append(all.ends, ends)
	}
	return all
}

// longest returns what Longest must return.
func (all table) longest(at int) (int, bool) {
	if at < 0 || at >= len(all.ends) || len(all.ends[at]) == 0 {
		return 0, false
	}
	return slices.Max(all.ends[at]), true
}

// search returns what Search must return.
func (all table) search(from int) (api.Span, bool) {
	if from < 0 {
		return api.Span{}, false
	}
	for at := from; at < len(all.ends); at++ {
		if to, ok := all.longest(at); ok {
			return api.Span{From: at, To: to}, true
		}
	}
	return api.Span{}, false
}

// threadsOf returns what Threads must return.
func (all table) threadsOf(at, end int) []int {
	if at < 0 || end < at || end >= len(all.threads) {
		return nil
	}
	return all.threads[at][end-at]
}

// A tally counts what was compared.
type tally struct{ matches, longer, later, threads, none int }

// checkDefined compares all three functions with their definitions, for a valid program and all offsets of a string, and some outside of it.
func checkDefined(t *testing.T, p api.ReProg, s string, count *tally) {
	t.Helper()
	all := tableOf(p, s)
	for at := -2; at <= len(s)+2; at++ {
		wantTo, wantOk := all.longest(at)
		if to, ok := resim.Longest(p, s, at); to != wantTo || ok != wantOk {
			t.Fatalf("Longest(%s, %q, %d) = %d, %v; want %d, %v", showProgram(p), s, at, to, ok, wantTo, wantOk)
		}
		wantSpan, wantOk := all.search(at)
		span, ok := resim.Search(p, s, at)
		if span != wantSpan || ok != wantOk {
			t.Fatalf("Search(%s, %q, %d) = %v, %v; want %v, %v", showProgram(p), s, at, span, ok, wantSpan, wantOk)
		}
		switch {
		case !ok:
			count.none++
		case span.From > at:
			count.later++
		case len(all.ends[at]) > 1:
			count.longer++
		default:
			count.matches++
		}
		for end := -2; end <= len(s)+2; end++ {
			want := all.threadsOf(at, end)
			if got := resim.Threads(p, s, at, end); !slices.Equal(got, want) {
				t.Fatalf("Threads(%s, %q, %d, %d) = %v; want %v", showProgram(p), s, at, end, got, want)
			}
			if len(want) > 1 {
				count.threads++
			}
		}
	}
}

// checkTally checks that each case was compared at least so many times.
func checkTally(t *testing.T, count tally, least int) {
	t.Helper()
	if min(count.matches, count.longer, count.later, count.threads, count.none) < least {
		t.Errorf("too few cases were compared: %+v", count)
	}
}

// shortTexts returns all strings of up to this length of three bytes.
func shortTexts(most int) []string {
	list := []string{""}
	for done := 0; len(list[done]) < most; done++ {
		for _, c := range []string{"a", "b", "\n"} {
			list = append(list, list[done]+c)
		}
	}
	return list
}

// TestP11_1To3SmallPrograms has all valid programs of one and two instructions, and many of three, of these.
func TestP11_1To3SmallPrograms(t *testing.T) {
	insts := instsOf(`set a, set b, set ab, set a\n, begin, end, match, match`)
	insts[7] = api.ReInst{Op: api.InMatch, Set: charsetOf("a"), X: -1, Y: 9}
	for x := range 3 {
		insts = append(insts, api.ReInst{Op: api.InJump, X: x, Y: 1 - x})
		for y := range 3 {
			insts = append(insts, api.ReInst{Op: api.InSplit, X: x, Y: y})
		}
	}
	random := rand.New(rand.NewSource(1101))
	texts := shortTexts(3)
	var count tally
	check := func(list ...api.ReInst) {
		p := api.ReProg{Insts: list, Lines: random.Intn(2) == 0}
		if !reprog.Valid(p) {
			return
		}
		for range 4 {
			checkDefined(t, p, texts[random.Intn(len(texts))], &count)
		}
	}
	for _, first := range insts {
		check(first)
		for _, second := range insts {
			check(first, second)
			for _, third := range insts {
				check(first, second, third)
			}
		}
	}
	checkTally(t, count, 100)
}

func TestP11_1To3SmallTrees(t *testing.T) {
	var count tally
	for _, e := range smallTrees(2) {
		for _, lines := range []bool{false, true} {
			p := compiled(t, e, lines)
			for _, s := range shortTexts(4) {
				checkDefined(t, p, s, &count)
			}
		}
	}
	checkTally(t, count, 3000)
}

func TestP11_1To3RandomPrograms(t *testing.T) {
	random := rand.New(rand.NewSource(1102))
	var count tally
	for range 30000 {
		checkDefined(t, randomProgram(random, 12), randomText(random, 9), &count)
	}
	checkTally(t, count, 1000)
}

func TestP11_1To3RandomTrees(t *testing.T) {
	random := rand.New(rand.NewSource(1103))
	var count tally
	for _, e := range validTrees(1104, 5000, 4, 3) {
		p, err := reprog.Compile(e, random.Intn(2) == 0)
		if err != api.OK || len(p.Insts) > 200 {
			continue
		}
		checkDefined(t, p, randomText(random, 8), &count)
	}
	checkTally(t, count, 1000)
}

// TestP11_1To3LongPrograms has programs whose instructions go beyond one word of marks.
func TestP11_1To3LongPrograms(t *testing.T) {
	random := rand.New(rand.NewSource(1105))
	var count tally
	for range 1000 {
		p := randomProgram(random, 300)
		for i := range p.Insts {
			// Otherwise most threads of a long program end soon.
			if op := p.Insts[i].Op; op == api.InBegin || op == api.InEnd {
				p.Insts[i] = api.ReInst{Op: api.InSplit, X: i + 1, Y: random.Intn(len(p.Insts))}
			}
		}
		checkDefined(t, p, randomText(random, 6), &count)
	}
	checkTally(t, count, 100)
}
