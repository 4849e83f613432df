package reprog_test

import (
	"math/rand"
	"slices"
	"testing"

	"texttools/api"
	"texttools/reprog"
)

// checkValid checks Valid, and that only valid programs are printed.
func checkValid(t *testing.T, insts []api.ReInst, want bool) {
	t.Helper()
	for _, lines := range []bool{false, true} {
		p := api.ReProg{Insts: insts, Lines: lines}
		if got := reprog.Valid(p); got != want {
			t.Errorf("Valid(%s, %v) = %v", showInsts(insts), lines, got)
		}
		if text := reprog.Print(p); (text != "") != want {
			t.Errorf("Print(%s, %v) = %.200q", showInsts(insts), lines, text)
		}
	}
}

func TestP10_2Numbers(t *testing.T) {
	checkValid(t, nil, false)
	checkValid(t, []api.ReInst{}, false)
	match := simple(api.InMatch)
	for _, inst := range []api.ReInst{match, take("ab"), simple(api.InBegin), simple(api.InEnd), jump(0), split(0, 4095), split(4095, 0)} {
		for _, count := range []int{4094, 4095} {
			checkValid(t, append(slices.Repeat([]api.ReInst{inst}, count), match), count == 4095 || inst.X+inst.Y < 4095)
		}
		for _, count := range []int{4096, 4097, 8192, 10000} {
			checkValid(t, append(slices.Repeat([]api.ReInst{inst}, count), match), false)
		}
	}
	checkValid(t, []api.ReInst{match}, true)
	checkValid(t, []api.ReInst{match, match}, true)
	checkValid(t, []api.ReInst{match, match, match}, true)
}

func TestP10_2Ops(t *testing.T) {
	match := simple(api.InMatch)
	for _, op := range []int{-2, -1, 0, 1, 2, 3, 4, 5, 6, 7, 8, 256 + 6, 1<<32 + 6, leastInt, leastInt + 6, greatestInt} {
		known := 1 <= op && op <= 6
		inst := api.ReInst{Op: op, Set: charsetOf("a")}
		checkValid(t, []api.ReInst{inst, match}, known)
		checkValid(t, []api.ReInst{match, inst, match}, known)
		checkValid(t, []api.ReInst{match, inst, match, match}, known)
		checkValid(t, []api.ReInst{match, inst}, op == api.InSplit || op == api.InJump || op == api.InMatch)
		checkValid(t, []api.ReInst{inst}, op == api.InSplit || op == api.InJump || op == api.InMatch)
	}
}

func TestP10_2Targets(t *testing.T) {
	match := simple(api.InMatch)
	for _, target := range []int{-1, 0, 1, 2, 3, 4, -2, -3, -4, 4095, 4096, leastInt, greatestInt, 1 << 32, -1 << 32} {
		inside := 0 <= target && target < 3
		for _, inst := range []api.ReInst{split(target, 0), split(0, target), split(target, target), split(target, 2), split(2, target), jump(target)} {
			checkValid(t, []api.ReInst{inst, match, match}, inside)
			checkValid(t, []api.ReInst{match, inst, match}, inside)
			checkValid(t, []api.ReInst{match, match, inst}, inside)
			checkValid(t, []api.ReInst{inst, inst, inst}, inside)
		}
		checkValid(t, []api.ReInst{jump(target)}, target == 0)
		checkValid(t, []api.ReInst{split(target, 0)}, target == 0)
		checkValid(t, []api.ReInst{split(0, target)}, target == 0)
	}
	checkValid(t, []api.ReInst{split(-1, 5), match}, false)
	checkValid(t, []api.ReInst{split(5, -1), match}, false)
}

func TestP10_2FieldsThatAreNotLookedAt(t *testing.T) {
	match := simple(api.InMatch)
	for _, number := range []int{-1, 1, 2, 3, 4096, leastInt, greatestInt} {
		for _, op := range []int{api.InSet, api.InBegin, api.InEnd, api.InMatch} {
			for _, list := range []string{"", "a", "\x00\xff"} {
				inst := api.ReInst{Op: op, Set: charsetOf(list), X: number, Y: -number}
				checkValid(t, []api.ReInst{inst, match}, true)
				checkValid(t, []api.ReInst{match, inst}, op == api.InMatch)
			}
		}
		checkValid(t, []api.ReInst{{Op: api.InJump, X: 1, Y: number, Set: charsetOf("a")}, match}, true)
		checkValid(t, []api.ReInst{{Op: api.InSplit, X: 1, Y: 0, Set: charsetOf("a")}, match}, true)
		checkValid(t, []api.ReInst{match, {Op: api.InJump, X: 0, Y: number}}, true)
	}
	checkValid(t, []api.ReInst{take(""), match}, true)
}

// TestP10_2WithoutAWay has programs of which some or all instructions, or the InMatch, are never reached: that does not count.
func TestP10_2WithoutAWay(t *testing.T) {
	checkValid(t, instsOf("jump 0"), true)
	checkValid(t, instsOf("split 0 0"), true)
	checkValid(t, instsOf("set a, jump 0"), true)
	checkValid(t, instsOf("jump 2, set a, match"), true)
	checkValid(t, instsOf("match, set a, end, split 0 3"), true)
	checkValid(t, instsOf("jump 1, jump 0"), true)
	checkValid(t, instsOf("match, set a"), false)
	checkValid(t, instsOf("jump 0, begin"), false)
	checkValid(t, instsOf("match, end"), false)
}

// definedValid is a second definition of Valid.
func definedValid(p api.ReProg) bool {
	count := len(p.Insts)
	if count < 1 || count > 4096 {
		return false
	}
	inside := func(number int) bool { return number >= 0 && number <= count-1 }
	for _, inst := range p.Insts {
		switch inst.Op {
		case 1, 4, 5, 6:
		case 2:
			if !inside(inst.X) || !inside(inst.Y) {
				return false
			}
		case 3:
			if !inside(inst.X) {
				return false
			}
		default:
			return false
		}
	}
	return !slices.Contains([]int{1, 4, 5}, p.Insts[count-1].Op)
}

func TestP10_2RandomPrograms(t *testing.T) {
	random := rand.New(rand.NewSource(1021))
	valid, notValid := 0, 0
	for range 40000 {
		p := randomProgram(random, 8)
		if !reprog.Valid(p) {
			t.Fatalf("Valid(%s) is false", showInsts(p.Insts))
		}
		inst := &p.Insts[random.Intn(len(p.Insts))]
		switch random.Intn(4) {
		case 0:
			inst.Op = random.Intn(8)
		case 1:
			inst.X = []int{randomNumber(random), len(p.Insts)}[random.Intn(2)]
		case 2:
			inst.Y = []int{randomNumber(random), len(p.Insts)}[random.Intn(2)]
		case 3:
			p.Insts = p.Insts[:random.Intn(len(p.Insts)+1)]
		}
		want := definedValid(p)
		checkValid(t, p.Insts, want)
		if want {
			valid++
		} else {
			notValid++
		}
	}
	if valid < 5000 || notValid < 5000 {
		t.Errorf("only %d programs are valid, and %d are not", valid, notValid)
	}
}

func TestP10_2ArgumentsAreKept(t *testing.T) {
	random := rand.New(rand.NewSource(1022))
	for range 1000 {
		p := randomProgram(random, 8)
		p.Insts = append(make([]api.ReInst, 0, 12), p.Insts...)
		before := copyOfProgram(api.ReProg{Insts: p.Insts[:cap(p.Insts)]})
		reprog.Valid(p)
		reprog.Print(p)
		if !slices.Equal(p.Insts[:cap(p.Insts)], before.Insts) {
			t.Fatalf("the program became %s", showInsts(p.Insts))
		}
	}
}
