package redfa_test

import (
	"math/rand"
	"reflect"
	"slices"
	"testing"

	"texttools/api"
	"texttools/redfa"
)

func checkMinimize(t *testing.T, d, want api.Dfa) {
	t.Helper()
	if got := redfa.Minimize(d); !equalDfas(got, want) {
		t.Errorf("Minimize(%s) = %s; want %s", showDfa(d), showDfa(got), showDfa(want))
	}
}

func TestP12_4Examples(t *testing.T) {
	for _, c := range []struct {
		pattern string
		lines   bool
		want    api.Dfa
	}{
		{"a*", false, dfaOf(classesOf("a"), "- 0 - yyy", "- 0 - yyy")},
		{"a$", false, dfaOf(classesOf("a"), "- 2 - nnn", "- 2 - nnn", "- - - nny")},
		{"a$", true, withLines(dfaOf(classesOf("\n", "a"), "- - 2 - nnnn", "- - 2 - nnnn", "- - - - nyny"))},
		{"a$b", false, dfaOf(classesOf("a", "b"), "- - - - nnnn", "- - - - nnnn")},
		{"^a|b", false, dfaOf(classesOf("a", "b"), "- 2 2 - nnnn", "- - 2 - nnnn", "- - - - yyyy")},
		{"a(b|c)|b(c|b)", false, dfaOf(classesOf("a", "b", "c"), "- 2 2 - - nnnnn", "- 2 2 - - nnnnn", "- - 3 3 - nnnnn", "- - - - - yyyyy")},
	} {
		checkMinimize(t, built(t, compiled(t, re(c.pattern), c.lines)), c.want)
	}
}

func TestP12_4States(t *testing.T) {
	for _, c := range []struct{ d, want api.Dfa }{
		// The states 0 and 1 remain, though they are dead, or equivalent.
		{dfaOf(classesOf(), "- - nn", "- - nn"), dfaOf(classesOf(), "- - nn", "- - nn")},
		{dfaOf(classesOf(), "0 - nn", "1 - nn"), dfaOf(classesOf(), "- - nn", "- - nn")},
		{dfaOf(classesOf(), "1 - nn", "0 - nn"), dfaOf(classesOf(), "- - nn", "- - nn")},
		{dfaOf(classesOf(), "1 - yy", "1 - yy"), dfaOf(classesOf(), "0 - yy", "0 - yy")},
		{dfaOf(classesOf(), "0 - yy", "0 - yy"), dfaOf(classesOf(), "0 - yy", "0 - yy")},
		{dfaOf(classesOf(), "1 - yn", "0 - yn"), dfaOf(classesOf(), "0 - yn", "0 - yn")},
		{dfaOf(classesOf(), "1 - yy", "1 - nn"), dfaOf(classesOf(), "- - yy", "- - nn")},
		{dfaOf(classesOf(), "1 - nn", "1 - yy"), dfaOf(classesOf(), "1 - nn", "1 - yy")},
		{dfaOf(classesOf(), "1 - yy", "0 - ny"), dfaOf(classesOf(), "1 - yy", "0 - ny")},
		// Equivalent to 1, but not to 0.
		{dfaOf(classesOf("a"), "- 2 - nnn", "- 2 - yyy", "- 2 - yyy"), dfaOf(classesOf("a"), "- 1 - nnn", "- 1 - yyy")},
		// Only 1 leads to it.
		{dfaOf(classesOf("a"), "- - - nnn", "- 2 - nnn", "- - - yyy"), dfaOf(classesOf("a"), "- - - nnn", "- 2 - nnn", "- - - yyy")},
		// States that cannot be reached, before and after others; one that leads to others.
		{dfaOf(classesOf("a"), "- 3 - nnn", "- 4 - nnn", "- - - nyn", "- - - yyy", "- - - nny"),
			dfaOf(classesOf("a"), "- 2 - nnn", "- 3 - nnn", "- - - yyy", "- - - nny")},
		{dfaOf(classesOf("a"), "- 2 - nnn", "- - - nnn", "- - - yyy", "0 2 - nnn"),
			dfaOf(classesOf("a"), "- 2 - nnn", "- - - nnn", "- - - yyy")},
		// The least equivalent state cannot be reached.
		{dfaOf(classesOf("a"), "- 3 - nnn", "3 4 - nnn", "- - - yyy", "- - - yyy", "- - - yyy"),
			dfaOf(classesOf("a"), "- 2 - nnn", "2 2 - nnn", "- - - yyy")},
		// Dead states, with loops, that lead to each other.
		{dfaOf(classesOf("a"), "2 4 - nnn", "- 3 - nnn", "2 3 - nnn", "3 2 - nnn", "3 - - yyy"),
			dfaOf(classesOf("a"), "- 2 - nnn", "- - - nnn", "- - - yyy")},
		// A dead state 0, to which others lead.
		{dfaOf(classesOf("a"), "0 0 - nnn", "0 1 - yyy"), dfaOf(classesOf("a"), "- - - nnn", "- 1 - yyy")},
		// Accept tells states apart before one class, or the end, only.
		{dfaOf(classesOf("a"), "2 3 - nnn", "3 4 - nnn", "- - - yny", "- - - yyy", "- - - yyn"),
			dfaOf(classesOf("a"), "2 3 - nnn", "3 4 - nnn", "- - - yny", "- - - yyy", "- - - yyn")},
		// States that differ after two bytes only.
		{dfaOf(classesOf("a"), "2 3 - nnn", "- - - nnn", "- 4 - yyy", "- 5 - yyy", "- 6 - nnn", "- 7 - nnn", "- - - yyy", "- - - nyy"),
			dfaOf(classesOf("a"), "2 3 - nnn", "- - - nnn", "- 4 - yyy", "- 5 - yyy", "- 6 - nnn", "- 7 - nnn", "- - - yyy", "- - - nyy")},
		// No state that follows is the same as a dead state that follows.
		{dfaOf(classesOf("a"), "2 3 - nnn", "- - - nnn", "4 - - yyy", "- 4 - yyy", "4 4 - nnn"),
			dfaOf(classesOf("a"), "2 2 - nnn", "- - - nnn", "- - - yyy")},
		// Loops of different lengths.
		{dfaOf(classesOf(), "2 - yy", "3 - yy", "0 - nn", "4 - nn", "5 - yy", "1 - nn"), dfaOf(classesOf(), "2 - yy", "2 - yy", "0 - nn")},
		{dfaOf(classesOf(), "2 - yy", "3 - yy", "4 - nn", "5 - nn", "0 - nn", "6 - yy", "7 - nn", "8 - nn", "1 - yy"),
			dfaOf(classesOf(), "2 - yy", "3 - yy", "4 - nn", "5 - nn", "0 - nn", "6 - yy", "7 - nn", "8 - nn", "1 - yy")},
	} {
		checkMinimize(t, c.d, c.want)
		checkMinimize(t, withLines(c.d), withLines(c.want))
	}
}

// TestP12_4ClassesWithoutBytes has classes of no byte: no string tells states apart by them, but Next leads to states by them. A state that nothing leads to any more does not remain.
func TestP12_4ClassesWithoutBytes(t *testing.T) {
	for _, c := range []struct{ d, want api.Dfa }{
		// A match before a class without bytes is none.
		{dfaOf(classesOf(), "2 - - nnn", "- - - nyn", "- - - nyn"), dfaOf(classesOf(), "- - - nnn", "- - - nyn")},
		{dfaOf(classesOf(), "2 - - yny", "- - - yyy", "- - - yyy"), dfaOf(classesOf(), "1 - - yny", "- - - yyy")},
		{dfaOf(classesOf(), "2 - - nnn", "3 - - nnn", "- - - yyy", "- - - yny"), dfaOf(classesOf(), "2 - - nnn", "2 - - nnn", "- - - yyy")},
		// What follows it does not count.
		{dfaOf(classesOf(), "2 - - nnn", "- - - nnn", "- 3 - nnn", "- - - yyy"), dfaOf(classesOf(), "- - - nnn", "- - - nnn")},
		{dfaOf(classesOf(), "- 2 - nnn", "- - - nnn", "- - - yyy"), dfaOf(classesOf(), "- 2 - nnn", "- - - nnn", "- - - yyy")},
		{dfaOf(classesOf(), "2 2 - nnn", "3 0 - nny", "- 0 - yyy", "- 1 - yyy"), dfaOf(classesOf(), "2 2 - nnn", "2 0 - nny", "- 0 - yyy")},
		// Only a state that does not remain leads to the last one, or to one that leads to it, or to both of its kind.
		{dfaOf(classesOf(), "2 3 - nnn", "- - - nnn", "- - - yny", "- 4 - yny", "- - - nny"), dfaOf(classesOf(), "2 2 - nnn", "- - - nnn", "- - - yny")},
		{dfaOf(classesOf(), "2 - - nnn", "3 - - nnn", "- - - nny", "- 4 - nny", "- - - yyy"), dfaOf(classesOf(), "2 - - nnn", "2 - - nnn", "- - - nny")},
		{dfaOf(classesOf(), "2 3 - nnn", "- - - nnn", "- - - yny", "- 4 - yny", "5 - - nny", "4 - - yny"), dfaOf(classesOf(), "2 2 - nnn", "- - - nnn", "- - - yny")},
		{dfaOf(classesOf(), "3 - - nnn", "- 2 - nnn", "- 4 - nnn", "- - - nny", "- - - yyy"), dfaOf(classesOf(), "2 - - nnn", "- - - nnn", "- - - nny")},
		// The least of two equivalent states is reached through one that does not remain, but takes the place of the other.
		{dfaOf(classesOf(), "2 - - nnn", "3 5 - nnn", "- - - nny", "- 4 - nny", "- - - yyy", "- 2 - yyy"), dfaOf(classesOf(), "2 - - nnn", "2 3 - nnn", "- - - nny", "- - - yyy")},
	} {
		checkMinimize(t, c.d, c.want)
	}
}

func TestP12_4NotValid(t *testing.T) {
	for _, d := range notValidDfas() {
		if got := redfa.Minimize(d); !reflect.DeepEqual(got, api.Dfa{}) {
			t.Errorf("Minimize(%s) = %s", showDfa(d), showDfa(got))
		}
	}
}

func TestP12_4Definition(t *testing.T) {
	random := rand.New(rand.NewSource(1241))
	fewer, equal := 0, 0
	for range 12000 {
		d := randomDfa(random, 7)
		if random.Intn(2) == 0 {
			d = twinned(random, d, random.Intn(6))
		}
		if random.Intn(4) == 0 {
			d = splitClasses(random, d)
		}
		want := definedMinimal(d)
		checkDfa(t, "Minimize("+showDfa(d)+")", redfa.Minimize(d), want)
		if len(want.Next) < len(d.Next) {
			fewer++
		} else {
			equal++
		}
	}
	if min(fewer, equal) < 2000 {
		t.Errorf("only %d automata have fewer states, and %d as many", fewer, equal)
	}
}

// TestP12_4AllSmall has all automata of two and three states whose strings have one byte only.
func TestP12_4AllSmall(t *testing.T) {
	for _, states := range []int{2, 3} {
		rows := 4 * (states + 1)
		cases := 1
		for range states {
			cases *= rows
		}
		for number := range cases {
			d := api.Dfa{Class: classesOf(), Classes: 2, Lines: number%2 == 1}
			for range states {
				row := number % rows
				number /= rows
				d.Next = append(d.Next, []int{row/4 - 1, -1})
				d.Accept = append(d.Accept, []bool{row%2 == 1, row/2%2 == 1})
			}
			checkDfa(t, "Minimize("+showDfa(d)+")", redfa.Minimize(d), definedMinimal(d))
		}
	}
}

func TestP12_4Built(t *testing.T) {
	random := rand.New(rand.NewSource(1242))
	for _, e := range append(validTrees(1243, 500, 3, 3), smallTrees(2)...) {
		p := compiled(t, e, random.Intn(2) == 0)
		d, err := redfa.Build(p)
		if err == api.OK && len(d.Next) < 20 {
			checkDfa(t, "Minimize("+showDfa(d)+")", redfa.Minimize(d), definedMinimal(d))
		}
	}
}

// wideChain returns an automaton of 512 states and 257 classes; each of its states leads by one class to the next one, and differs from the others.
func wideChain(class int) api.Dfa {
	d := api.Dfa{Classes: 257}
	for c := range 256 {
		d.Class += string([]byte{byte(c)})
	}
	for s := range 512 {
		next := slices.Repeat([]int{-1}, 257)
		if s < 511 {
			next[class] = s + 1
		}
		accept := make([]bool, 257)
		accept[256] = s == 511
		d.Next, d.Accept = append(d.Next, next), append(d.Accept, accept)
	}
	return d
}

func TestP12_4MostStates(t *testing.T) {
	for _, class := range []int{0, 128, 255} {
		d := wideChain(class)
		checkMinimize(t, d, d)
		// All states but the last one lead to it: they are equivalent, but for the last one.
		for s := range 511 {
			d.Next[s][class] = 511
		}
		want := wideChain(class)
		want.Next, want.Accept = want.Next[:3], append(want.Accept[:2], want.Accept[511])
		want.Next[0][class], want.Next[1][class], want.Next[2][class] = 2, 2, -1
		checkMinimize(t, d, want)
	}
	d := wideChain(0)
	for s := range 512 {
		d.Next[s][0] = (s + 1) % 512
		d.Accept[s][256] = true
	}
	want := wideChain(0)
	want.Next, want.Accept = want.Next[:2], d.Accept[:2]
	want.Next[0][0], want.Next[1][0] = 0, 0
	checkMinimize(t, d, want)
}

func TestP12_4ArgumentsAndResults(t *testing.T) {
	d := validDfa(classesOf("a", "b"), "- 2 3 - nnyn", "- - 4 - nynn", "- 5 2 - yyyn", "- 4 3 - yyyn", "5 - 1 - yyyy", "5 5 5 - nnnn")
	for s := range d.Next {
		d.Next[s] = append(d.Next[s], 7)[:4]
		d.Accept[s] = append(d.Accept[s], true)[:4]
	}
	kept := copyOfDfa(d)
	got := redfa.Minimize(d)
	want := copyOfDfa(got)
	for s := range got.Next {
		for k := range got.Next[s] {
			got.Next[s][k], got.Accept[s][k] = 99, !got.Accept[s][k]
		}
		got.Next[s], got.Accept[s] = append(got.Next[s], 98), append(got.Accept[s], true)
	}
	for s := range got.Next {
		for k := range d.Classes {
			if got.Next[s][k] != 99 || got.Accept[s][k] == want.Accept[s][k] {
				t.Fatal("the lists of a result share memory")
			}
		}
	}
	checkDfa(t, "the argument of Minimize", d, kept)
	for s := range d.Next {
		if d.Next[s][:5][4] != 7 || !d.Accept[s][:5][4] {
			t.Fatal("Minimize changes the spare capacity of its argument")
		}
	}
	checkMinimize(t, d, want)
}
