package reprog_test

import (
	"testing"

	"texttools/api"
	"texttools/reprog"
	"texttools/retree"
)

// checkError checks that a tree has this error, and no program.
func checkError(t *testing.T, name string, e api.Re, want api.Errno) {
	t.Helper()
	for _, lines := range []bool{false, true} {
		if p, err := reprog.Compile(e, lines); err != want || len(p.Insts) != 0 || p.Lines {
			t.Errorf("%s: Compile(%s, %v) = %s, %v, %v; want %v", name, show(e), lines, showInsts(p.Insts), p.Lines, err, want)
		}
	}
}

// groups returns count groups with the numbers from 1 on.
func groups(count int) []api.Re {
	var list []api.Re
	for i := range count {
		list = append(list, group(i+1, a))
	}
	return list
}

// powered returns a tree of which Expand would have about 64 times 64 times 64 nodes.
func powered() api.Re {
	return nested(3, 64, 64, a)
}

// notValid returns trees with each of the errors of retree.Check.
func notValid() map[api.Errno][]api.Re {
	return map[api.Errno][]api.Re{
		api.ErrType: {
			{}, {Op: -1}, {Op: 10}, {Op: 99}, {Op: leastInt}, {Op: greatestInt}, {Op: api.ReSet}, cat(), cat(a), alt(), alt(a), {Op: api.ReRep}, {Op: api.ReGroup, Group: 1}, {Op: api.ReRep, Args: []api.Re{a, b}}, {Op: api.ReEmpty, Lo: 1}, {Op: api.ReBegin, Args: []api.Re{a}}, {Op: api.ReEnd, Group: 1}, {Op: api.ReCat, Hi: -1, Args: []api.Re{a, b}}, {Op: api.ReSet, Set: a.Set, Group: 1}, rep(0, 1, api.Re{}), rep(0, 0, api.Re{Op: 99}), alt(a, cat(b, api.Re{Op: 99})),
		},
		api.ErrRange: {
			rep(-1, 1, a), rep(2, 1, a), rep(0, 65, a), rep(65, 65, a), rep(65, -1, a), rep(0, -2, a), rep(leastInt, greatestInt, a), group(0, a), group(2, a), group(-1, a), cat(group(1, a), group(1, a)), cat(group(2, a), group(1, a)), alt(empty, rep(1, 0, a)), rep(0, 0, rep(2, 1, a)),
		},
		api.ErrName: {
			back(1), back(0), back(-1), cat(group(1, a), back(2)), cat(back(1), group(1, a)), group(1, back(1)), group(1, cat(a, back(1))), cat(group(1, a), back(10)), alt(empty, back(1)), rep(0, 0, back(1)),
		},
		api.ErrLimit: {
			cat(several(600, a)...), alt(several(1000, empty)...), cat(groups(10)...), nested(32, 0, 1, a), nested(500, 0, -1, a),
		},
	}
}

func TestP10_1ErrorsOfCheck(t *testing.T) {
	checked := 0
	for want, trees := range notValid() {
		for _, e := range trees {
			if err := retree.Check(e); err != want {
				t.Fatalf("Check(%s) = %v, want %v", show(e), err, want)
			}
			checkError(t, "a tree that is not valid", e, want)
			checked++
		}
	}
	if checked < 40 {
		t.Errorf("only %d trees were checked", checked)
	}
}

func TestP10_1BackReferences(t *testing.T) {
	for _, e := range []api.Re{
		cat(group(1, a), back(1)), re(`(a)\1`), re(`(a*)b\1`), re(`(a)(b)\2*`), re(`(a)|\1`), re(`((a)\2)`), cat(group(1, a), star(back(1))), cat(group(1, a), rep(0, 0, back(1))), rep(0, 0, cat(group(1, a), back(1))), rep(2, 2, cat(group(1, empty), back(1))), cat(append(groups(9), back(9))...), cat(group(1, a), alt(b, cat(c, optional(back(1))))),
	} {
		checkError(t, "a back reference", e, api.ErrType)
	}
}

func TestP10_1OrderOfErrors(t *testing.T) {
	reference := cat(group(1, a), back(1))
	if retree.Check(powered()) != api.OK || retree.Check(reference) != api.OK {
		t.Fatal("a tree of this test is not valid")
	}
	checkError(t, "Check before a back reference", cat(reference, rep(2, 1, a)), api.ErrRange)
	checkError(t, "Check before a back reference", cat(reference, back(2)), api.ErrName)
	checkError(t, "Check before a back reference", cat(append(several(600, a), reference)...), api.ErrLimit)
	checkError(t, "Check before a back reference", cat(append(groups(10), back(1))...), api.ErrLimit)
	checkError(t, "Check before Expand", cat(powered(), api.Re{Op: 99}), api.ErrType)
	checkError(t, "Check before Expand", cat(powered(), rep(2, 1, a)), api.ErrRange)
	checkError(t, "Check before Expand", cat(powered(), back(1)), api.ErrName)
	checkError(t, "a back reference before Expand", cat(powered(), reference), api.ErrType)
	checkError(t, "a back reference before Expand", cat(reference, powered()), api.ErrType)
	checkError(t, "a back reference before the instructions", cat(twins(33), reference), api.ErrType)
	checkError(t, "Check before the instructions", cat(rep(0, 65, a), rep(64, 64, twins(33))), api.ErrRange)
}

func TestP10_1LimitOfExpand(t *testing.T) {
	checkError(t, "many nodes", powered(), api.ErrLimit)
	checkError(t, "many nodes", nested(31, 64, 64, a), api.ErrLimit)
	checkError(t, "many nodes", star(rep(64, 64, rep(63, 63, a))), api.ErrLimit)
	// The programs of these trees would be short: the nodes count.
	checkError(t, "many nodes without instructions", rep(64, 64, rep(63, 63, empty)), api.ErrLimit)
	checkError(t, "many nodes without instructions", rep(64, 64, cat(several(63, empty)...)), api.ErrLimit)
	checkError(t, "many nodes without instructions", nested(8, 64, 64, empty), api.ErrLimit)
	checkCode(t, rep(64, 64, rep(62, 62, empty)), "match")
	checkCode(t, cat(rep(64, 64, rep(62, 62, empty)), cat(several(61, empty)...)), "match")
	checkError(t, "4097 nodes", cat(rep(64, 64, rep(62, 62, empty)), cat(several(62, empty)...)), api.ErrLimit)
}

// twins returns a choice of count empty strings, whose code has about twice as many instructions as it has nodes.
func twins(count int) api.Re {
	return alt(several(count, empty)...)
}

// checkLimit checks that a tree with the part e has a program with up to MaxInsts instructions.
func checkLimit(t *testing.T, name string, e api.Re) {
	t.Helper()
	rest := api.MaxInsts - 1 - definedSize(e)
	fits := cat(append(several(rest, a), e)...)
	p, err := reprog.Compile(fits, true)
	want, _ := definedCompile(fits, true)
	if err != api.OK || len(p.Insts) != 4096 || !sameProgram(p, want) {
		t.Errorf("%s: Compile of 4096 instructions = %d instructions, %v", name, len(p.Insts), err)
	}
	for more := 1; more < 4; more++ {
		exceeds := cat(append(several(rest+more, a), e)...)
		if _, err := retree.Expand(exceeds); err != api.OK {
			t.Fatalf("%s: Expand = %v", name, err)
		}
		checkError(t, name, exceeds, api.ErrLimit)
	}
}

func TestP10_1LimitOfInstructions(t *testing.T) {
	checkLimit(t, "choices", rep(62, 62, twins(33)))
	checkLimit(t, "choices", group(1, rep(10, 10, twins(200))))
	checkLimit(t, "choices in repetitions", rep(64, 64, star(twins(31))))
	checkLimit(t, "repetitions", rep(64, 64, nested(28, 0, -1, a)))
	checkLimit(t, "repetitions of all kinds", rep(63, 63, cat(nested(15, 0, -1, a), nested(15, 0, 1, b), nested(10, 1, -1, b))))
	checkError(t, "twice as many", rep(64, 64, twins(60)), api.ErrLimit)
	checkError(t, "twice as many", rep(64, 64, cat(nested(29, 0, -1, a), nested(29, 0, -1, a))), api.ErrLimit)
}

func TestP10_1GreatestTrees(t *testing.T) {
	for _, e := range []api.Re{cat(several(599, a)...), alt(several(599, a)...), nested(31, 0, -1, a), nested(31, 1, -1, b), cat(groups(9)...), rep(64, 64, cat(several(60, a)...)), alt(nested(30, 0, 1, a), star(alt(several(560, b)...)))} {
		if !checkDefined(t, e, true) {
			t.Errorf("%s has no program", show(e))
		}
	}
}
