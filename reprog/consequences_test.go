package reprog_test

import (
	"math/rand"
	"slices"
	"strings"
	"testing"

	"texttools/api"
	"texttools/rematch"
	"texttools/reprog"
)

func TestP10_4Valid(t *testing.T) {
	programs := 0
	for _, e := range append(append(validTrees(1041, 5000, 5, 4), validTrees(1042, 2000, 4, 64)...), smallTrees(2)...) {
		p, err := reprog.Compile(e, false)
		if err != api.OK {
			continue
		}
		programs++
		if !reprog.Valid(p) || !definedValid(p) {
			t.Fatalf("the program %s of %s is not valid", showInsts(p.Insts), show(e))
		}
		isMatch := func(inst api.ReInst) bool { return inst.Op == api.InMatch }
		if slices.IndexFunc(p.Insts, isMatch) != len(p.Insts)-1 {
			t.Fatalf("the InMatch of the program %s of %s is not the last instruction alone", showInsts(p.Insts), show(e))
		}
	}
	if programs < 5000 {
		t.Errorf("only %d trees have programs", programs)
	}
}

// A walker goes all ways through a program.
type walker struct {
	api.ReProg
	s       string
	visited map[[2]int]bool
	ends    []int
}

// walk goes on from the instruction with this number at the offset at.
func (w *walker) walk(number, at int) {
	if w.visited[[2]int{number, at}] {
		return
	}
	w.visited[[2]int{number, at}] = true
	switch inst := w.Insts[number]; inst.Op {
	case api.InSet:
		if at < len(w.s) && strings.IndexByte(bytesOf(inst.Set), w.s[at]) >= 0 {
			w.walk(number+1, at+1)
		}
	case api.InSplit:
		w.walk(inst.X, at)
		w.walk(inst.Y, at)
	case api.InJump:
		w.walk(inst.X, at)
	case api.InBegin:
		if at == 0 || w.Lines && w.s[at-1] == '\n' {
			w.walk(number+1, at)
		}
	case api.InEnd:
		if at == len(w.s) || w.Lines && w.s[at] == '\n' {
			w.walk(number+1, at)
		}
	case api.InMatch:
		w.ends = append(w.ends, at)
	}
}

// endsOfWays returns the offsets at which ways through the program from the offset at end, in ascending order.
func endsOfWays(p api.ReProg, s string, at int) []int {
	w := walker{ReProg: p, s: s, visited: map[[2]int]bool{}}
	w.walk(0, at)
	slices.Sort(w.ends)
	return slices.Compact(w.ends)
}

// endsOfParses returns the ends of the parses of a tree, each once, in ascending order.
func endsOfParses(e api.Re, s string, at int, lines bool) ([]int, bool) {
	list, err := rematch.Parses(e, s, at, lines)
	var ends []int
	for _, p := range list {
		ends = append(ends, p.End)
	}
	slices.Sort(ends)
	return slices.Compact(ends), err == api.OK
}

// checkAgreement checks that the ways through the program of a tree end where its parses do, and returns their number.
func checkAgreement(t *testing.T, e api.Re, p api.ReProg, s string, at int) int {
	t.Helper()
	want, ok := endsOfParses(e, s, at, p.Lines)
	if !ok {
		return 0
	}
	if got := endsOfWays(p, s, at); !slices.Equal(got, want) {
		t.Fatalf("the ways through the program %s of %s in %q from %d, lines %v, end at %v; the parses at %v", showInsts(p.Insts), show(e), s, at, p.Lines, got, want)
	}
	return len(want)
}

func TestP10_5SmallTrees(t *testing.T) {
	for _, e := range smallTrees(2) {
		for _, lines := range []bool{false, true} {
			p := compiled(t, e, lines)
			for _, s := range []string{"", "a", "\n", "aa", "a\n", "\na", "ab", "aaaa", "\n\n", "a\na\n"} {
				for at := range len(s) + 1 {
					checkAgreement(t, e, p, s, at)
				}
			}
		}
	}
}

func TestP10_5Agreement(t *testing.T) {
	random := rand.New(rand.NewSource(1051))
	several, none := 0, 0
	for _, e := range append(append(validTrees(1052, 8000, 4, 3), validTrees(1053, 2000, 3, 64)...), smallTrees(3)...) {
		p, err := reprog.Compile(e, random.Intn(2) == 0)
		if err != api.OK {
			continue
		}
		for range 3 {
			list := make([]byte, random.Intn(8))
			for i := range list {
				list[i] = "aaaabbb\nc"[random.Intn(9)]
			}
			switch checkAgreement(t, e, p, string(list), random.Intn(len(list)+1)) {
			case 0:
				none++
			case 1:
			default:
				several++
			}
		}
	}
	if several < 5000 || none < 5000 {
		t.Errorf("only %d lists have several ends, and %d none", several, none)
	}
}

func TestP10_6Groups(t *testing.T) {
	compared := 0
	for _, e := range append(validTrees(1061, 8000, 5, 4), group(1, a), re("((a)|(b(c)*))+(^)?($){2}")) {
		plain := withoutGroups(e)
		with, err := reprog.Compile(e, true)
		if err != api.OK || same(e, plain) {
			continue
		}
		without, err := reprog.Compile(plain, true)
		if err != api.OK || !sameProgram(with, without) {
			t.Fatalf("the program of %s is %s, and without groups %s, %v", show(e), showInsts(with.Insts), showInsts(without.Insts), err)
		}
		compared++
	}
	if compared < 1000 {
		t.Errorf("only %d trees have groups", compared)
	}
}

func TestP10_7Sequences(t *testing.T) {
	random := rand.New(rand.NewSource(1071))
	trees := append(plainTrees(1072, 3000, 4, 3), smallTrees(2)...)
	compared := 0
	for range 20000 {
		x, y := trees[random.Intn(len(trees))], trees[random.Intn(len(trees))]
		lines := random.Intn(2) == 0
		whole, err := reprog.Compile(cat(x, y), lines)
		if err != api.OK {
			continue
		}
		first, second := compiled(t, x, lines).Insts, compiled(t, y, lines).Insts
		size := len(first) - 1
		want := append(slices.Clone(first[:size]), moved(second, size)...)
		if !slices.Equal(whole.Insts, want) {
			t.Fatalf("the program of %s is %s, want %s", show(cat(x, y)), showInsts(whole.Insts), showInsts(want))
		}
		compared++
	}
	if compared < 10000 {
		t.Errorf("only %d sequences were compared", compared)
	}
}

func TestP10_7Optional(t *testing.T) {
	compared := 0
	for _, e := range append(plainTrees(1073, 5000, 4, 3), smallTrees(2)...) {
		whole, err := reprog.Compile(optional(e), false)
		if err != api.OK {
			continue
		}
		inner := compiled(t, e, false).Insts
		want := append([]api.ReInst{split(1, len(inner))}, moved(inner, 1)...)
		if !slices.Equal(whole.Insts, want) {
			t.Fatalf("the program of %s is %s, want %s", show(optional(e)), showInsts(whole.Insts), showInsts(want))
		}
		compared++
	}
	if compared < 3000 {
		t.Errorf("only %d programs were compared", compared)
	}
}

// disturbed returns the valid program with a change of one instruction or of Lines, after which it may be equal.
func disturbed(random *rand.Rand, p api.ReProg) api.ReProg {
	p = copyOfProgram(p)
	at := random.Intn(len(p.Insts))
	inst := &p.Insts[at]
	switch random.Intn(6) {
	case 0:
		p.Lines = !p.Lines
	case 1:
		inst.Op = 1 + random.Intn(6)
	case 2:
		inst.X = []int{random.Intn(len(p.Insts)), randomNumber(random)}[random.Intn(2)]
	case 3:
		inst.Y = []int{random.Intn(len(p.Insts)), randomNumber(random)}[random.Intn(2)]
	case 4:
		inst.Set.Bits[random.Intn(4)] ^= 1 << random.Intn(64)
	case 5:
		p.Insts = slices.Insert(p.Insts, at, p.Insts[at])
	}
	return p
}

// checkPrinted checks that two valid programs are printed as the same string exactly if they are equal, and returns whether they are.
func checkPrinted(t *testing.T, p, q api.ReProg) bool {
	t.Helper()
	equal := sameProgram(looked(p), looked(q))
	if (reprog.Print(p) == reprog.Print(q)) != equal {
		t.Fatalf("%s, %v and %s, %v are equal: %v; they are printed as %.300q and %.300q", showInsts(p.Insts), p.Lines, showInsts(q.Insts), q.Lines, equal, reprog.Print(p), reprog.Print(q))
	}
	return equal
}

func TestP10_8Printing(t *testing.T) {
	random := rand.New(rand.NewSource(1081))
	equal, different := 0, 0
	for range 60000 {
		p := randomProgram(random, 7)
		q := disturbed(random, p)
		if !reprog.Valid(q) {
			continue
		}
		if checkPrinted(t, p, q) {
			equal++
		} else {
			different++
		}
	}
	if equal < 5000 || different < 5000 {
		t.Errorf("only %d programs are equal, and %d different", equal, different)
	}
}

func TestP10_8SmallPrograms(t *testing.T) {
	var insts []api.ReInst
	for _, list := range []string{"", "a", "b", "ab", "abc", "ac", "\x01\x02", "\x0c", "\x01"} {
		insts = append(insts, take(list))
	}
	for x := range 2 {
		for y := range 2 {
			insts = append(insts, split(x, y), api.ReInst{Op: api.InJump, X: x, Y: y})
		}
	}
	insts = append(insts, simple(api.InBegin), simple(api.InEnd), simple(api.InMatch), api.ReInst{Op: api.InEnd, X: 9, Set: charsetOf("a")})
	var programs []api.ReProg
	for _, lines := range []bool{false, true} {
		for _, first := range insts {
			programs = append(programs, api.ReProg{Insts: []api.ReInst{first}, Lines: lines})
			for _, second := range insts {
				programs = append(programs, api.ReProg{Insts: []api.ReInst{first, second}, Lines: lines})
			}
		}
	}
	programs = slices.DeleteFunc(programs, func(p api.ReProg) bool { return !reprog.Valid(p) })
	for i, p := range programs {
		for _, q := range programs[i:] {
			checkPrinted(t, p, q)
		}
	}
	if len(programs) < 200 {
		t.Errorf("there are only %d valid programs", len(programs))
	}
}
