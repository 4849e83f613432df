package redfa_test

import (
	"math/rand"
	"reflect"
	"slices"
	"strings"
	"testing"

	"texttools/api"
	"texttools/redfa"
	"texttools/reprog"
)

func checkBuild(t *testing.T, p api.ReProg, want api.Dfa) {
	t.Helper()
	d, err := redfa.Build(p)
	if err != api.OK || !equalDfas(d, want) {
		t.Errorf("Build(%s) = %s, %v; want %s", showProgram(p), showDfa(d), err, showDfa(want))
	}
}

func checkBuildError(t *testing.T, p api.ReProg, want api.Errno) {
	t.Helper()
	if d, err := redfa.Build(p); err != want || !reflect.DeepEqual(d, api.Dfa{}) {
		t.Errorf("Build of %d instructions %.200s = %s, %v; want the error %v", len(p.Insts), showProgram(p), showDfa(d), err, want)
	}
}

// built returns the automaton of a program that has one.
func built(t *testing.T, p api.ReProg) api.Dfa {
	t.Helper()
	d, err := redfa.Build(p)
	if err != api.OK {
		t.Fatalf("Build(%s) = %v", showProgram(p), err)
	}
	return d
}

func TestP12_1Examples(t *testing.T) {
	checkBuild(t, programOf("split 1 3, set a, jump 0, match", false), dfaOf(classesOf("a"),
		"- 2 - yyy",
		"- 2 - yyy",
		"- 2 - yyy"))
	p := programOf("set a, end, match", false)
	checkBuild(t, p, dfaOf(classesOf("a"),
		"- 2 - nnn",
		"- 2 - nnn",
		"- - - nny"))
	p.Lines = true
	checkBuild(t, p, withLines(dfaOf(classesOf("\n", "a"),
		"- - 2 - nnnn",
		"- - 2 - nnnn",
		"- - - - nyny")))
	checkBuild(t, compiled(t, re("a$b"), false), dfaOf(classesOf("a", "b"),
		"- 2 - - nnnn",
		"- 2 - - nnnn",
		"- - - - nnnn"))
}

func TestP12_1Classes(t *testing.T) {
	var singles, all []string
	for c := range 256 {
		singles = append(singles, string([]byte{byte(c)}))
	}
	everything := strings.Join(singles, "")
	all = append(all, everything)
	ranges := []string{everything[:128], everything[64:192]}
	for _, c := range []struct {
		sets  []string
		lines bool
		// want has the bytes of each class but the first one, or of all classes if together they have all bytes.
		want []string
	}{
		{nil, false, nil},
		{nil, true, []string{"\n"}},
		{[]string{""}, false, nil},
		{[]string{"", "", ""}, true, []string{"\n"}},
		{all, false, nil},
		{all, true, []string{"\n"}},
		{[]string{"\n"}, false, []string{"\n"}},
		{[]string{"\n"}, true, []string{"\n"}},
		{[]string{"a\n"}, false, []string{"\na"}},
		{[]string{"a\n"}, true, []string{"\n", "a"}},
		{[]string{"\n\x0b"}, true, []string{"\n", "\x0b"}},
		{[]string{"\t\n"}, true, []string{"\t", "\n"}},
		{[]string{"b", "a"}, false, []string{"a", "b"}},
		{[]string{"b", "a", "b", "ab", "a"}, false, []string{"a", "b"}},
		{[]string{"ab", "bc"}, false, []string{"a", "b", "c"}},
		{[]string{"abc", "b"}, false, []string{"ac", "b"}},
		{[]string{"ac", "b", "abc"}, false, []string{"ac", "b"}},
		{[]string{"ab", "ab"}, false, []string{"ab"}},
		{[]string{"\xff"}, false, []string{"\xff"}},
		{[]string{"\xff", "\x80", "\x7f"}, true, []string{"\n", "\x7f", "\x80", "\xff"}},
		{[]string{"\x00"}, false, []string{"\x00", everything[1:]}},
		{[]string{"\x00\xff"}, true, []string{"\x00\xff", everything[1:10] + everything[11:255], "\n"}},
		{[]string{everything[:200]}, false, []string{everything[:200], everything[200:]}},
		{ranges, false, []string{everything[:64], everything[64:128], everything[128:192], everything[192:]}},
		{singles, false, singles},
		{singles, true, singles},
		{singles[:255], false, singles},
		{singles[1:], true, singles},
	} {
		// The sets of instructions that are not reached count, too.
		insts := []api.ReInst{simple(api.InMatch)}
		for _, set := range c.sets {
			insts = append(insts, api.ReInst{Op: api.InSet, Set: charsetOf(set), X: -1})
		}
		p := api.ReProg{Insts: append(insts, simple(api.InMatch)), Lines: c.lines}
		class, classes := classesOf(c.want...), len(c.want)+2
		if len(strings.Join(c.want, "")) == 256 {
			class, classes = classesOf(c.want[1:]...), len(c.want)+1
		}
		row := make([]int, classes)
		for i := range row {
			row[i] = -1
		}
		accept := slices.Repeat([]bool{true}, classes)
		checkBuild(t, p, api.Dfa{Class: class, Classes: classes, Next: [][]int{row, row}, Accept: [][]bool{accept, accept}, Lines: c.lines})
	}
}

// TestP12_1OnlySetsMakeClasses has sets in the instructions that do not look at them.
func TestP12_1OnlySetsMakeClasses(t *testing.T) {
	p := programOf("split 1 2, jump 2, begin, end, match", false)
	for i := range p.Insts {
		p.Insts[i].Set = charsetOf("abc")
	}
	checkBuild(t, p, dfaOf(classesOf(), "- - ny", "- - nn"))
}

func TestP12_1States(t *testing.T) {
	for _, c := range []struct {
		insts string
		lines bool
		want  api.Dfa
	}{
		// Without InMatch, and without bytes.
		{"jump 0", false, dfaOf(classesOf(), "- - nn", "- - nn")},
		{"split 0 0", true, withLines(dfaOf(classesOf("\n"), "- - - nnn", "- - - nnn"))},
		{"match", false, dfaOf(classesOf(), "- - yy", "- - yy")},
		{"match", true, withLines(dfaOf(classesOf("\n"), "- - - yyy", "- - - yyy"))},
		{"jump 2, match, jump 1", false, dfaOf(classesOf(), "- - yy", "- - yy")},
		{"jump 2, match, jump 2", false, dfaOf(classesOf(), "- - nn", "- - nn")},
		// A set that takes no byte makes no state.
		{"set, match", false, dfaOf(classesOf(), "- - nn", "- - nn")},
		{"split 1 2, set, match", false, dfaOf(classesOf(), "- - yy", "- - yy")},
		// States are equal if their sets are, not if their closures are.
		{"split 1 3, set a, jump 5, set b, jump 5, set ab, match", false, dfaOf(classesOf("a", "b"),
			"- 2 3 - nnnn", "- 2 3 - nnnn", "- 4 4 - nnnn", "- 4 4 - nnnn", "- - - - yyyy")},
		{"split 1 3, set a, jump 4, set b, set ab, match", false, dfaOf(classesOf("a", "b"),
			"- 2 3 - nnnn", "- 2 3 - nnnn", "- 4 4 - nnnn", "- 4 4 - nnnn", "- - - - yyyy")},
		{"split 1 2, jump 3, jump 3, set a, match", false, dfaOf(classesOf("a"),
			"- 2 - nnn", "- 2 - nnn", "- - - yyy")},
		// Several instructions in a set, and several InMatch.
		{"split 1 3, set a, match, set ab, match", false, dfaOf(classesOf("a", "b"),
			"- 2 3 - nnnn", "- 2 3 - nnnn", "- - - - yyyy", "- - - - yyyy")},
		{"split 1 3, set a, jump 1, set ab, set b, match", false, dfaOf(classesOf("a", "b"),
			"- 2 3 - nnnn", "- 2 3 - nnnn", "- 4 5 - nnnn", "- - 5 - nnnn", "- 4 - - nnnn", "- - - - yyyy")},
		// The numbers are given in the order of the states, and of their classes.
		{"split 1 3, set b, jump 5, set a, set a, match", false, dfaOf(classesOf("a", "b"),
			"- 2 3 - nnnn", "- 2 3 - nnnn", "- 4 - - nnnn", "- - - - yyyy", "- - - - yyyy")},
		// Only state 0 is at the beginning, but with Lines also what follows a line feed.
		{"begin, set a, match", false, dfaOf(classesOf("a"), "- 2 - nnn", "- - - nnn", "- - - yyy")},
		{"begin, set a, match", true, withLines(dfaOf(classesOf("\n", "a"),
			"- - 2 - nnnn", "- - - - nnnn", "- - - - yyyy"))},
		{"set a\\n, begin, set b, match", false, dfaOf(classesOf("\na", "b"),
			"- 2 - - nnnn", "- 2 - - nnnn", "- - - - nnnn")},
		{"set a\\n, begin, set b, match", true, withLines(dfaOf(classesOf("\n", "a", "b"),
			"- 2 3 - - nnnnn", "- 2 3 - - nnnnn", "- - - 4 - nnnnn", "- - - - - nnnnn", "- - - - - yyyyy"))},
		{"set \\n, begin, match", true, withLines(dfaOf(classesOf("\n"),
			"- 2 - nnn", "- 2 - nnn", "- - - yyy"))},
		{"set \\n, begin, match", false, dfaOf(classesOf("\n"),
			"- 2 - nnn", "- 2 - nnn", "- - - nnn")},
		// The flag alone tells states apart.
		{"split 1 2, set ab\\n, match", true, withLines(dfaOf(classesOf("\n", "ab"),
			"- 2 3 - yyyy", "- 2 3 - yyyy", "- - - - yyyy", "- - - - yyyy"))},
		// The end of the input, or of a line.
		{"end, match", false, dfaOf(classesOf(), "- - ny", "- - ny")},
		{"end, match", true, withLines(dfaOf(classesOf("\n"), "- - - nyy", "- - - nyy"))},
		{"end, set a\\n, match", false, dfaOf(classesOf("\na"), "- - - nnn", "- - - nnn")},
		{"end, set a\\n, match", true, withLines(dfaOf(classesOf("\n", "a"),
			"- 2 - - nnnn", "- 2 - - nnnn", "- - - - yyyy"))},
		{"begin, end, match", false, dfaOf(classesOf(), "- - ny", "- - nn")},
		{"begin, end, match", true, withLines(dfaOf(classesOf("\n"), "- - - nyy", "- - - nnn"))},
		// Nothing follows the end.
		{"end, set a, match", false, dfaOf(classesOf("a"), "- - - nnn", "- - - nnn")},
		// Loops without a byte.
		{"split 1 0, split 0 2, set a, split 0 4, match", false, dfaOf(classesOf("a"),
			"- 2 - nnn", "- 2 - nnn", "- 2 - yyy")},
	} {
		checkBuild(t, programOf(c.insts, c.lines), c.want)
	}
}

// setsAndMatch returns a program of so many instructions: sets of the byte a, and an InMatch.
func setsAndMatch(insts int) api.ReProg {
	return api.ReProg{Insts: append(slices.Repeat([]api.ReInst{{Op: api.InSet, Set: charsetOf("a")}}, insts-1), simple(api.InMatch))}
}

func TestP12_1MostStates(t *testing.T) {
	want := api.Dfa{Class: classesOf("a"), Classes: 3}
	for s := range 512 {
		next := []int{-1, s + 1, -1}
		if s == 0 {
			next[1] = 2
		}
		accept := slices.Repeat([]bool{s == 511}, 3)
		if s == 511 {
			next[1] = -1
		}
		want.Next, want.Accept = append(want.Next, next), append(want.Accept, accept)
	}
	checkBuild(t, setsAndMatch(511), want)
	for _, insts := range []int{512, 513, 1000, 4096} {
		checkBuildError(t, setsAndMatch(insts), api.ErrLimit)
	}
	// The last state is found from any state, here by many classes of state 0.
	for _, c := range []struct {
		tail int
		err  api.Errno
	}{{254, api.OK}, {255, api.ErrLimit}} {
		var insts []api.ReInst
		for i := range 256 {
			other := len(insts) + 3
			if i == 255 {
				other = len(insts) + 1
			}
			insts = append(insts, api.ReInst{Op: api.InSplit, X: len(insts) + 1, Y: other})
			insts = append(insts, api.ReInst{Op: api.InSet, Set: charsetOf(string([]byte{byte(i)}))})
			insts = append(insts, api.ReInst{Op: api.InJump, X: 256 * 3})
		}
		insts = append(insts, slices.Repeat([]api.ReInst{{Op: api.InSet, Set: charsetOf("a")}}, c.tail)...)
		p := api.ReProg{Insts: append(insts, simple(api.InMatch))}
		if c.err == api.OK {
			if d := built(t, p); len(d.Next) != 512 || d.Classes != 257 {
				t.Errorf("%d states, %d classes", len(d.Next), d.Classes)
			}
		} else {
			checkBuildError(t, p, c.err)
		}
	}
	// An a that is followed by so many bytes and the end needs a state for each set of offsets of them.
	for _, c := range []struct {
		pattern string
		err     api.Errno
	}{{"(a|b)*a(a|b){7}", api.OK}, {"(a|b)*a(a|b){8}", api.ErrLimit}, {"(a|b)*a(a|b){12}", api.ErrLimit}} {
		if _, err := redfa.Build(compiled(t, re(c.pattern), false)); err != c.err {
			t.Errorf("Build of %s = %v; want %v", c.pattern, err, c.err)
		}
	}
}

// TestP12_1MostInstructions has programs of 4096 instructions that are all reached.
func TestP12_1MostInstructions(t *testing.T) {
	p := api.ReProg{}
	for i := range 4095 {
		p.Insts = append(p.Insts, api.ReInst{Op: api.InSplit, X: i + 1, Y: 4095})
	}
	p.Insts = append(p.Insts, simple(api.InMatch))
	checkBuild(t, p, dfaOf(classesOf(), "- - yy", "- - yy"))
	p.Insts[4094] = api.ReInst{Op: api.InSet, Set: charsetOf("a")}
	checkBuild(t, p, dfaOf(classesOf("a"), "- 2 - yyy", "- 2 - yyy", "- - - yyy"))
	p.Insts[4095] = api.ReInst{Op: api.InJump, X: 4093}
	checkBuild(t, p, dfaOf(classesOf("a"), "- 2 - nnn", "- 2 - nnn", "- 2 - nnn"))
}

func TestP12_1NotValid(t *testing.T) {
	for _, p := range notValid() {
		checkBuildError(t, p, api.ErrType)
	}
	// Not valid, and too many states.
	p := setsAndMatch(1000)
	p.Insts = append(p.Insts, simple(api.InBegin))
	checkBuildError(t, p, api.ErrType)
}

// checkDefined compares Build with the chapter's definitions, and returns the number of states; 0 if there are more than most.
func checkDefined(t *testing.T, p api.ReProg, most int) int {
	t.Helper()
	want, ok := definedDfa(p, most)
	if !ok {
		return 0
	}
	d, err := redfa.Build(p)
	if err != api.OK || !equalDfas(d, want) {
		t.Fatalf("Build(%s) = %s, %v; want %s", showProgram(p), showDfa(d), err, showDfa(want))
	}
	return len(want.Next)
}

func TestP12_1SmallPrograms(t *testing.T) {
	insts := instsOf(`set a, set ab, set a\n, begin, end, match`)
	for x := range 3 {
		insts = append(insts, api.ReInst{Op: api.InJump, X: x, Y: 1 - x})
		for y := range 3 {
			insts = append(insts, api.ReInst{Op: api.InSplit, X: x, Y: y})
		}
	}
	count := 0
	check := func(list ...api.ReInst) {
		for _, lines := range []bool{false, true} {
			if p := (api.ReProg{Insts: list, Lines: lines}); reprog.Valid(p) {
				checkDefined(t, p, 100)
				count++
			}
		}
	}
	for _, first := range insts {
		check(first)
		for _, second := range insts {
			check(first, second)
			for _, third := range insts {
				check(first, second, third)
			}
		}
	}
	if count < 5000 {
		t.Errorf("only %d programs were compared", count)
	}
}

func TestP12_1RandomPrograms(t *testing.T) {
	random := rand.New(rand.NewSource(1201))
	sizes := map[int]int{}
	for range 6000 {
		sizes[min(checkDefined(t, randomProgram(random, 14), 60), 8)]++
	}
	for size := 2; size <= 8; size++ {
		if sizes[size] < 20 {
			t.Errorf("only %d automata of %d states: %v", sizes[size], size, sizes)
		}
	}
}

func TestP12_1RandomTrees(t *testing.T) {
	random := rand.New(rand.NewSource(1202))
	large := 0
	for _, e := range append(validTrees(1203, 2500, 4, 3), smallTrees(2)...) {
		p, err := reprog.Compile(e, random.Intn(2) == 0)
		if err == api.OK && len(p.Insts) < 150 && checkDefined(t, p, 40) > 5 {
			large++
		}
	}
	if large < 300 {
		t.Errorf("only %d automata of more than 5 states", large)
	}
}

func TestP12_1ArgumentsAndResults(t *testing.T) {
	p := compiled(t, re("(a|b)*a(b|c)$"), true)
	insts := append(slices.Clone(p.Insts), simple(9), simple(8))
	p.Insts = insts[:len(p.Insts)]
	kept := slices.Clone(insts)
	d := built(t, p)
	if !slices.Equal(insts, kept) {
		t.Error("Build changes its argument")
	}
	want := copyOfDfa(d)
	for s := range d.Next {
		d.Next[s] = append(d.Next[s], 77)
		d.Accept[s] = append(d.Accept[s], true)
	}
	for s := range d.Next {
		if !slices.Equal(d.Next[s][:d.Classes], want.Next[s]) || !slices.Equal(d.Accept[s][:d.Classes], want.Accept[s]) {
			t.Fatal("the lists of a result share memory")
		}
	}
	checkBuild(t, p, want)
}
