package reprog_test

import (
	"slices"
	"testing"

	"texttools/api"
	"texttools/reprog"
	"texttools/retree"
)

// checkCode checks the program of a tree, whose instructions are written as for instsOf.
func checkCode(t *testing.T, e api.Re, want string) {
	t.Helper()
	for _, lines := range []bool{false, true} {
		got, err := reprog.Compile(e, lines)
		if err != api.OK || got.Lines != lines || !slices.Equal(got.Insts, instsOf(want)) {
			t.Errorf("Compile(%s, %v) = %s, %v, %v; want %s", show(e), lines, showInsts(got.Insts), got.Lines, err, showInsts(instsOf(want)))
		}
	}
}

func TestP10_1Examples(t *testing.T) {
	checkCode(t, re("(a|b)*"), "split 1 6, split 2 4, set a, jump 5, set b, jump 0, match")
	checkCode(t, re(""), "match")
	checkCode(t, re("a+"), "set a, split 0 2, match")
	checkCode(t, re("a?"), "split 1 2, set a, match")
	checkCode(t, re("a{2}"), "set a, set a, match")
	checkCode(t, re("aa"), "set a, set a, match")
	checkCode(t, re("(^|a)$"), "split 1 3, begin, jump 4, set a, end, match")
	checkCode(t, re("a*"), "split 1 3, set a, jump 0, match")
}

func TestP10_1Leaves(t *testing.T) {
	checkCode(t, empty, "match")
	checkCode(t, a, "set a, match")
	checkCode(t, set("acz"), "set acz, match")
	checkCode(t, begin, "begin, match")
	checkCode(t, end, "end, match")
	whole := api.Re{Op: api.ReSet, Set: api.Charset{Bits: [4]uint64{1<<64 - 1, 1<<64 - 1, 1<<64 - 1, 1<<64 - 1}}}
	for _, e := range []api.Re{set("\x00"), set("\n"), set("\xff"), set("\x3f\x40\x7f\x80\xbf\xc0"), whole} {
		want := api.ReProg{Insts: []api.ReInst{{Op: api.InSet, Set: e.Set}, {Op: api.InMatch}}}
		if got, err := reprog.Compile(e, false); err != api.OK || !sameProgram(got, want) {
			t.Errorf("Compile(%s) = %s, %v", show(e), showInsts(got.Insts), err)
		}
	}
}

func TestP10_1Sequences(t *testing.T) {
	checkCode(t, cat(a, b), "set a, set b, match")
	checkCode(t, cat(b, a, c), "set b, set a, set c, match")
	checkCode(t, cat(begin, a, end), "begin, set a, end, match")
	checkCode(t, cat(end, empty, begin), "end, begin, match")
	checkCode(t, cat(empty, empty), "match")
	checkCode(t, cat(a, cat(b, c), a), "set a, set b, set c, set a, match")
	checkCode(t, cat(optional(a), optional(b)), "split 1 2, set a, split 3 4, set b, match")
	checkCode(t, cat(alt(a, b), alt(b, c)), "split 1 3, set a, jump 4, set b, split 5 7, set b, jump 8, set c, match")
}

func TestP10_1Groups(t *testing.T) {
	checkCode(t, group(1, a), "set a, match")
	checkCode(t, group(1, empty), "match")
	checkCode(t, group(1, group(2, cat(a, group(3, b)))), "set a, set b, match")
	checkCode(t, cat(group(1, alt(a, b)), group(2, star(c))), "split 1 3, set a, jump 4, set b, split 5 7, set c, jump 4, match")
	checkCode(t, star(group(1, star(a))), "split 1 5, split 2 4, set a, jump 1, jump 0, match")
}

func TestP10_1Alternatives(t *testing.T) {
	checkCode(t, alt(a, b), "split 1 3, set a, jump 4, set b, match")
	checkCode(t, alt(a, b, c), "split 1 3, set a, jump 7, split 4 6, set b, jump 7, set c, match")
	checkCode(t, alt(a, b, c, a), "split 1 3, set a, jump 10, split 4 6, set b, jump 10, split 7 9, set c, jump 10, set a, match")
	checkCode(t, alt(empty, empty), "split 1 2, jump 2, match")
	checkCode(t, alt(empty, empty, empty), "split 1 2, jump 4, split 3 4, jump 4, match")
	checkCode(t, alt(a, empty), "split 1 3, set a, jump 3, match")
	checkCode(t, alt(empty, a), "split 1 2, jump 3, set a, match")
	checkCode(t, alt(cat(a, b), c), "split 1 4, set a, set b, jump 5, set c, match")
	checkCode(t, alt(a, cat(b, c)), "split 1 3, set a, jump 5, set b, set c, match")
	checkCode(t, cat(c, alt(a, b), c), "set c, split 2 4, set a, jump 5, set b, set c, match")
	// The tree keeps what is nested, and so does the code.
	checkCode(t, alt(a, alt(b, c)), "split 1 3, set a, jump 7, split 4 6, set b, jump 7, set c, match")
	checkCode(t, alt(alt(a, b), c), "split 1 6, split 2 4, set a, jump 5, set b, jump 7, set c, match")
	checkCode(t, alt(optional(a), star(b)), "split 1 4, split 2 3, set a, jump 7, split 5 7, set b, jump 4, match")
}

func TestP10_1Repetitions(t *testing.T) {
	checkCode(t, optional(a), "split 1 2, set a, match")
	checkCode(t, star(a), "split 1 3, set a, jump 0, match")
	checkCode(t, plus(a), "set a, split 0 2, match")
	checkCode(t, optional(empty), "split 1 1, match")
	checkCode(t, star(empty), "split 1 2, jump 0, match")
	checkCode(t, plus(empty), "split 0 1, match")
	checkCode(t, plus(cat(empty, group(1, empty))), "split 0 1, match")
	checkCode(t, cat(a, plus(empty), b), "set a, split 1 2, set b, match")
	checkCode(t, cat(c, optional(a), b), "set c, split 2 3, set a, set b, match")
	checkCode(t, cat(c, star(a), b), "set c, split 2 4, set a, jump 1, set b, match")
	checkCode(t, cat(c, plus(a), b), "set c, set a, split 1 3, set b, match")
	checkCode(t, plus(cat(a, b)), "set a, set b, split 0 3, match")
	checkCode(t, plus(alt(a, b)), "split 1 3, set a, jump 4, set b, split 0 5, match")
	checkCode(t, plus(plus(a)), "set a, split 0 2, split 0 3, match")
	checkCode(t, plus(star(a)), "split 1 3, set a, jump 0, split 0 4, match")
	checkCode(t, plus(optional(a)), "split 1 2, set a, split 0 3, match")
	checkCode(t, star(plus(a)), "split 1 4, set a, split 1 3, jump 0, match")
	checkCode(t, star(star(a)), "split 1 5, split 2 4, set a, jump 1, jump 0, match")
	checkCode(t, optional(optional(a)), "split 1 3, split 2 3, set a, match")
	checkCode(t, optional(plus(begin)), "split 1 3, begin, split 1 3, match")
	checkCode(t, star(alt(begin, end)), "split 1 6, split 2 4, begin, jump 5, end, jump 0, match")
}

func TestP10_1CountedRepetitions(t *testing.T) {
	checkCode(t, rep(0, 0, a), "match")
	checkCode(t, rep(0, 0, star(cat(a, b))), "match")
	checkCode(t, rep(1, 1, a), "set a, match")
	checkCode(t, rep(3, 3, a), "set a, set a, set a, match")
	checkCode(t, rep(2, 2, optional(a)), "split 1 2, set a, split 3 4, set a, match")
	checkCode(t, rep(2, -1, a), "set a, set a, split 1 3, match")
	checkCode(t, rep(3, -1, a), "set a, set a, set a, split 2 4, match")
	checkCode(t, rep(2, -1, empty), "split 0 1, match")
	checkCode(t, rep(0, 2, a), "split 1 2, set a, split 3 4, set a, match")
	checkCode(t, rep(1, 2, a), "set a, split 2 3, set a, match")
	checkCode(t, rep(1, 3, a), "set a, split 2 3, set a, split 4 5, set a, match")
	checkCode(t, rep(2, 4, a), "set a, set a, split 3 4, set a, split 5 6, set a, match")
	checkCode(t, rep(0, 2, empty), "split 1 1, split 2 2, match")
	checkCode(t, rep(2, 2, alt(a, b)), "split 1 3, set a, jump 4, set b, split 5 7, set a, jump 8, set b, match")
	checkCode(t, rep(2, 2, group(1, a)), "set a, set a, match")
	checkCode(t, star(rep(2, 2, a)), "split 1 4, set a, set a, jump 0, match")
	checkCode(t, rep(2, 2, rep(1, 2, a)), "set a, split 2 3, set a, set a, split 5 6, set a, match")
	checkCode(t, cat(b, rep(2, 2, a), b), "set b, set a, set a, set b, match")
}

func TestP10_1ArgumentsAreKept(t *testing.T) {
	for _, e := range []api.Re{re("(a|(b))*(c?){2,3}"), cat(group(1, rep(0, 3, alt(a, b, empty))), star(begin)), alt(begin, star(end)), rep(2, 2, cat(a, b))} {
		e.Args = append(make([]api.Re, 0, 9), e.Args...)
		before := copyOf(e)
		spare := slices.Clone(e.Args[:cap(e.Args)])
		for range 2 {
			reprog.Compile(e, true)
			reprog.Compile(e, false)
		}
		if !same(e, before) || !slices.EqualFunc(e.Args[:cap(e.Args)], spare, same) {
			t.Errorf("the tree %s became %s", show(before), show(e))
		}
	}
}

func TestP10_1ResultsShareNoMemory(t *testing.T) {
	for _, e := range []api.Re{re("(a|b)*"), empty, rep(3, 5, a)} {
		before := copyOf(e)
		first, second := compiled(t, e, true), compiled(t, e, true)
		want := copyOfProgram(second)
		first.Insts = append(first.Insts, take("x"))
		for i := range first.Insts[:cap(first.Insts)] {
			first.Insts[:cap(first.Insts)][i] = split(77, 77)
		}
		if !sameProgram(second, want) || !sameProgram(compiled(t, e, true), want) || !same(e, before) {
			t.Errorf("a change of the program of %s changed %s", show(e), showInsts(second.Insts))
		}
	}
}

// definedSize returns the number of instructions of the code of a tree, with counted repetitions, too.
func definedSize(e api.Re) int {
	size := 0
	for _, part := range e.Args {
		size += definedSize(part)
	}
	switch {
	case e.Op == api.ReSet || e.Op == api.ReBegin || e.Op == api.ReEnd:
		return 1
	case e.Op == api.ReAlt:
		return size + 2*(len(e.Args)-1)
	case e.Op == api.ReRep && e.Hi >= 0:
		return e.Lo*size + (e.Hi-e.Lo)*(size+1)
	case e.Op == api.ReRep && e.Lo == 0:
		return size + 2
	case e.Op == api.ReRep:
		return e.Lo*size + 1
	}
	return size
}

// definedCode returns the code of a tree, which begins at the instruction at. All targets follow from the sizes of the parts.
func definedCode(e api.Re, at int) []api.ReInst {
	var list []api.ReInst
	add := func(insts ...api.ReInst) { list = append(list, insts...) }
	here := func() int { return at + len(list) }
	switch e.Op {
	case api.ReSet:
		add(api.ReInst{Op: api.InSet, Set: e.Set})
	case api.ReBegin:
		add(simple(api.InBegin))
	case api.ReEnd:
		add(simple(api.InEnd))
	case api.ReCat, api.ReGroup:
		for _, part := range e.Args {
			add(definedCode(part, here())...)
		}
	case api.ReAlt:
		last := len(e.Args) - 1
		for _, part := range e.Args[:last] {
			add(split(here()+1, here()+2+definedSize(part)))
			add(definedCode(part, here())...)
			add(jump(at + definedSize(e)))
		}
		add(definedCode(e.Args[last], here())...)
	case api.ReRep:
		size := definedSize(e.Args[0])
		if e.Lo == 0 && e.Hi == -1 {
			add(split(at+1, at+size+2))
			add(definedCode(e.Args[0], here())...)
			add(jump(at))
			break
		}
		for range e.Lo {
			add(definedCode(e.Args[0], here())...)
		}
		if e.Hi == -1 {
			add(split(here()-size, here()+1))
		}
		for range e.Hi - e.Lo {
			add(split(here()+1, here()+1+size))
			add(definedCode(e.Args[0], here())...)
		}
	}
	return list
}

// definedCompile returns what Compile must return.
func definedCompile(e api.Re, lines bool) (api.ReProg, api.Errno) {
	if err := retree.Check(e); err != api.OK {
		return api.ReProg{}, err
	}
	if retree.Back(e) {
		return api.ReProg{}, api.ErrType
	}
	if _, err := retree.Expand(e); err != api.OK {
		return api.ReProg{}, err
	}
	if definedSize(e) >= api.MaxInsts {
		return api.ReProg{}, api.ErrLimit
	}
	return api.ReProg{Insts: append(definedCode(e, 0), simple(api.InMatch)), Lines: lines}, api.OK
}

// checkDefined checks the result of Compile, and returns whether it is a program.
func checkDefined(t *testing.T, e api.Re, lines bool) bool {
	t.Helper()
	got, err := reprog.Compile(e, lines)
	want, wantErr := definedCompile(e, lines)
	if err != wantErr || !sameProgram(got, want) {
		t.Fatalf("Compile(%s, %v) = %s, %v, %v; want %s, %v", show(e), lines, showInsts(got.Insts), got.Lines, err, showInsts(want.Insts), wantErr)
	}
	return err == api.OK
}

func TestP10_1SmallTrees(t *testing.T) {
	trees := smallTrees(3)
	for i, e := range trees {
		checkDefined(t, e, i%2 == 0)
	}
	if len(trees) < 10000 {
		t.Errorf("there are only %d trees", len(trees))
	}
}

func TestP10_1RandomTrees(t *testing.T) {
	programs, limited := 0, 0
	for _, trees := range [][]api.Re{validTrees(1011, 8000, 5, 4), validTrees(1012, 3000, 4, 64), validTrees(1013, 3000, 7, 2)} {
		for i, e := range trees {
			if checkDefined(t, e, i%2 == 0) {
				programs++
			} else {
				limited++
			}
		}
	}
	if programs < 10000 || limited < 100 {
		t.Errorf("only %d trees have programs, and %d exceed a limit", programs, limited)
	}
}

func TestP10_1AllBounds(t *testing.T) {
	for lo := range api.MaxRepeat + 1 {
		for hi := -1; hi <= api.MaxRepeat; hi++ {
			if hi == -1 || hi >= lo {
				checkDefined(t, rep(lo, hi, alt(a, b)), false)
				checkDefined(t, cat(a, rep(lo, hi, empty), b), true)
			}
		}
	}
}
