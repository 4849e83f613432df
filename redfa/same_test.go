package redfa_test

import (
	"math/rand"
	"testing"

	"texttools/api"
	"texttools/redfa"
)

// checkSame checks Same in both orders.
func checkSame(t *testing.T, x, y api.Dfa, want bool) {
	t.Helper()
	if redfa.Same(x, y) != want || redfa.Same(y, x) != want {
		t.Errorf("Same of %s and %s is %v, and %v in the other order; want %v", showDfa(x), showDfa(y), redfa.Same(x, y), redfa.Same(y, x), want)
	}
}

func TestP12_5Patterns(t *testing.T) {
	for _, c := range []struct {
		x, y        string
		none, lines bool
	}{
		{"a*", "a*", true, true},
		{"a*", "(a*)*", true, true},
		{"a*", "a*a*|a{3}", true, true},
		{"a+", "aa*", true, true},
		{"a*", "a+", false, false},
		{"a*", "b*", false, false},
		{"a|b", "[ab]", true, true},
		{"a|b", "b|a", true, true},
		{"a|b", "[a-c]", false, false},
		{"a$b", "b$a", true, true},
		{"a$b", "^a^", true, true},
		{"a$b", "a", false, false},
		{"^a", "a", false, false},
		{"^a", "^^a", true, true},
		{"(^|x)a", "^a|xa", true, true},
		{"a$", "a$$", true, true},
		{"a$", "a", false, false},
		{"^$", "$^", true, true},
		{"(a|b)*a(a|b)", "(a|b)*(aa|ab)", true, true},
		{"(a|b)*a(a|b)", "(a|b)*(a|b)a", false, false},
		{"a{5}", "aaaaa", true, true},
		{"a{5}", "aaaa", false, false},
		{"a{5}", "a{5,6}", false, false},
		{"(aa)*(aaa)*", "(aa|aaa)*", true, true},
		{"[^a]|a", ".|\n", true, true},
		// A line begins after a line feed only with Lines.
		{"\n^a", "\na", false, true},
		{"\n^a", "b$a", true, false},
		{"a$\n", "a\n", false, true},
	} {
		for i, lines := range []bool{false, true} {
			x, y := built(t, compiled(t, re(c.x), lines)), built(t, compiled(t, re(c.y), lines))
			want := []bool{c.none, c.lines}[i]
			checkSame(t, x, y, want)
			checkSame(t, redfa.Minimize(x), y, want)
			checkSame(t, redfa.Minimize(x), redfa.Minimize(y), want)
		}
	}
}

func TestP12_5Lines(t *testing.T) {
	for _, pattern := range []string{"a", "", "a*b"} {
		x, y := built(t, compiled(t, re(pattern), false)), built(t, compiled(t, re(pattern), true))
		checkSame(t, x, y, false)
		y.Lines = false
		checkSame(t, x, y, true)
	}
}

func TestP12_5States(t *testing.T) {
	for _, c := range []struct {
		x, y api.Dfa
		want bool
	}{
		// Both first states count.
		{dfaOf(classesOf(), "- - yn", "- - ny"), dfaOf(classesOf(), "- - yn", "- - ny"), true},
		{dfaOf(classesOf(), "- - yn", "- - ny"), dfaOf(classesOf(), "- - yn", "- - nn"), false},
		{dfaOf(classesOf(), "- - yn", "- - ny"), dfaOf(classesOf(), "- - yy", "- - ny"), false},
		{dfaOf(classesOf(), "- - yn", "- - ny"), dfaOf(classesOf(), "- - ny", "- - yn"), false},
		// Others do not if they cannot be reached.
		{dfaOf(classesOf(), "- - yn", "- - ny", "- - nn"), dfaOf(classesOf(), "- - yn", "- - ny", "2 - yy"), true},
		// A dead state is as good as none.
		{dfaOf(classesOf(), "2 - yn", "- - ny", "2 - nn"), dfaOf(classesOf(), "- - yn", "- - ny"), true},
		{dfaOf(classesOf(), "2 - yn", "- - ny", "2 - ny"), dfaOf(classesOf(), "- - yn", "- - ny"), false},
		{dfaOf(classesOf(), "2 - yn", "- - ny", "3 - nn", "4 - nn", "- - yn"), dfaOf(classesOf(), "2 - yn", "- - ny", "3 - nn", "4 - nn", "- - nn"), false},
		{dfaOf(classesOf(), "- - nn", "1 - nn"), dfaOf(classesOf(), "0 - nn", "- - nn"), true},
		// Loops of different lengths.
		{dfaOf(classesOf(), "1 - yn", "0 - yn"), dfaOf(classesOf(), "0 - yn", "1 - yn"), true},
		{dfaOf(classesOf(), "0 - yn", "1 - yn"), dfaOf(classesOf(), "2 - yn", "3 - yn", "3 - yn", "0 - yn"), true},
		{dfaOf(classesOf(), "0 - yn", "1 - yn"), dfaOf(classesOf(), "2 - yn", "3 - yn", "3 - yn", "0 - yy"), false},
		// Accept before one class, or the end.
		{dfaOf(classesOf("a"), "0 1 - yny", "0 1 - yny"), dfaOf(classesOf("a"), "0 1 - yyy", "0 1 - yny"), false},
		{dfaOf(classesOf("a"), "0 1 - yny", "0 1 - yny"), dfaOf(classesOf("a"), "0 1 - yny", "0 1 - ynn"), false},
		{dfaOf(classesOf("a"), "0 1 - yny", "0 1 - yny"), dfaOf(classesOf("a"), "1 0 - yny", "1 0 - yny"), true},
		// Other classes for the same bytes.
		{dfaOf(classesOf("a"), "- 1 - nyn", "1 - - yny"), dfaOf(classesOf("b", "a"), "- - 1 - nnyn", "1 1 - - yyny"), true},
		{dfaOf(classesOf("a"), "- 1 - nyn", "1 - - yny"), dfaOf(classesOf("b", "a"), "- - 1 - nnyn", "1 1 - - ynny"), false},
		{dfaOf(classesOf("a"), "- 1 - nyn", "1 - - yny"), dfaOf(classesOf("b", "a"), "- - 1 - nnyn", "1 - - - yyny"), false},
		{dfaOf(classesOf("a"), "- 1 - nyn", "1 - - yny"), dfaOf(classesOf("b"), "- 1 - nyn", "1 - - yny"), false},
		{dfaOf(classesOf("\xff"), "- 1 - nyn", "1 - - yny"), dfaOf(classesOf(), "- - nn", "1 - yy"), false},
		{dfaOf(classesOf("\x00"), "- 1 - nnn", "1 1 - yyy"), dfaOf(classesOf("\x00\x01"), "- 1 - nnn", "1 1 - yyy"), false},
		// A class without a byte does not count.
		{dfaOf(classesOf(), "1 1 - yyn", "0 - - ynn"), dfaOf(classesOf(), "1 - yn", "0 - yn"), true},
	} {
		checkSame(t, c.x, c.y, c.want)
		checkSame(t, withLines(c.x), withLines(c.y), c.want)
		checkSame(t, withLines(c.x), c.y, false)
		checkSame(t, c.x, c.x, true)
		checkSame(t, c.y, c.y, true)
	}
}

func TestP12_5NotValid(t *testing.T) {
	good := validDfa(classesOf("a"), "- 1 - yyy", "0 1 - yny")
	for _, d := range notValidDfas() {
		checkSame(t, d, d, false)
		checkSame(t, d, good, false)
	}
	checkSame(t, good, good, true)
}

// texts returns all strings of up to this length of the bytes.
func texts(bytes []int, most int) []string {
	list := []string{""}
	for done := 0; len(list[done]) < most; done++ {
		for _, c := range bytes {
			list = append(list, list[done]+string([]byte{byte(c)}))
		}
	}
	return list
}

// sameTexts reports whether two automata accept the same of all strings that can tell them apart.
func sameTexts(x, y api.Dfa) bool {
	bytes := oneOfEach(x, y)
	for _, w := range texts(bytes, len(x.Next)+len(y.Next)) {
		for _, c := range append([]int{endOfString}, bytes...) {
			for first := range 2 {
				if accepts(x, first, w, c) != accepts(y, first, w, c) {
					return false
				}
			}
		}
	}
	return true
}

func TestP12_5Strings(t *testing.T) {
	random := rand.New(rand.NewSource(1251))
	same, other := 0, 0
	for same+other < 3000 {
		x, y := randomDfa(random, 3), randomDfa(random, 4)
		if random.Intn(3) == 0 {
			y = twinned(random, x, random.Intn(3))
		}
		if random.Intn(3) == 0 {
			y.Accept[random.Intn(len(y.Accept))][0] = random.Intn(2) == 0
		}
		x.Lines, y.Lines = false, false
		if len(oneOfEach(x, y)) > 3 {
			continue
		}
		want := sameTexts(x, y)
		checkSame(t, x, y, want)
		if definedSame(x, y) != want {
			t.Fatalf("the test tells %s and %s apart in two ways", showDfa(x), showDfa(y))
		}
		if want {
			same++
		} else {
			other++
		}
	}
	if min(same, other) < 300 {
		t.Errorf("only %d pairs are the same, and %d not", same, other)
	}
}

func TestP12_5Definition(t *testing.T) {
	random := rand.New(rand.NewSource(1252))
	same, other := 0, 0
	for range 6000 {
		x := randomDfa(random, 7)
		y := x
		if random.Intn(2) == 0 {
			y = splitClasses(random, y)
		}
		y = twinned(random, y, random.Intn(5))
		switch random.Intn(4) {
		case 0:
			s, k := random.Intn(len(y.Accept)), random.Intn(y.Classes)
			y.Accept[s][k] = !y.Accept[s][k]
		case 1:
			s, k := random.Intn(len(y.Next)), random.Intn(y.Classes-1)
			y.Next[s][k] = random.Intn(len(y.Next)+1) - 1
		case 2:
			y.Lines = random.Intn(4) > 0 == y.Lines
		}
		want := definedSame(x, y)
		checkSame(t, x, y, want)
		if want {
			same++
		} else {
			other++
		}
	}
	if min(same, other) < 1500 {
		t.Errorf("only %d pairs are the same, and %d not", same, other)
	}
}

func TestP12_5MostStates(t *testing.T) {
	for _, class := range []int{0, 255} {
		x, y := wideChain(class), wideChain(class)
		checkSame(t, x, y, true)
		y.Accept[510][0] = true
		checkSame(t, x, y, false)
		y.Accept[510][0] = false
		y.Next[511][7] = 511
		checkSame(t, x, y, false)
		y.Accept[511][256] = false
		checkSame(t, x, y, false)
	}
	// A loop of 511 states and one of 512: only as many bytes as their product tell the states apart.
	x, y := wideChain(0), wideChain(0)
	for s := range 512 {
		x.Next[s][0], y.Next[s][0] = (s+1)%512, (s+1)%511
		x.Accept[s][256], y.Accept[s][256] = true, true
	}
	checkSame(t, x, y, true)
	x.Accept[511][256], y.Accept[510][256] = false, false
	checkSame(t, x, y, false)
}

func TestP12_5ArgumentsAreKept(t *testing.T) {
	x := built(t, compiled(t, re("(a|b)*a(b|c)"), true))
	y := redfa.Minimize(x)
	keptX, keptY := copyOfDfa(x), copyOfDfa(y)
	checkSame(t, x, y, true)
	redfa.Valid(x)
	redfa.Longest(x, "aabac", 0)
	checkDfa(t, "the first argument", x, keptX)
	checkDfa(t, "the second argument", y, keptY)
}
