package resim_test

import (
	"math/rand"
	"slices"
	"testing"

	"texttools/api"
	"texttools/rematch"
	"texttools/reprog"
	"texttools/resim"
)

// checkMeaning compares the functions for the program of a tree with the parses of layer 9, from one offset on, and returns whether there is a match, and whether it could be compared.
func checkMeaning(t *testing.T, e api.Re, p api.ReProg, s string, at int) (found, compared bool) {
	t.Helper()
	leftmost, found, err := rematch.Leftmost(e, s, at, p.Lines)
	if err != api.OK {
		return false, false
	}
	var want api.Span
	if found {
		want = leftmost.Spans[0]
	}
	if got, ok := resim.Search(p, s, at); got != want || ok != found {
		t.Fatalf("Search(%s, %q, %d) of %s = %v, %v; Leftmost is %v, %v", showProgram(p), s, at, show(e), got, ok, want, found)
	}
	parses, err := rematch.Parses(e, s, at, p.Lines)
	if err != api.OK {
		return false, false
	}
	to := 0
	if len(parses) > 0 {
		to = parses[0].End
	}
	if got, ok := resim.Longest(p, s, at); got != to || ok != (len(parses) > 0) {
		t.Fatalf("Longest(%s, %q, %d) of %s = %d, %v; the parses are %v", showProgram(p), s, at, show(e), got, ok, parses)
	}
	for end := at; end <= len(s); end++ {
		threads := resim.Threads(p, s, at, end)
		// The InMatch of a program that was compiled is its last instruction.
		got := slices.Contains(threads, len(p.Insts)-1)
		if want := slices.ContainsFunc(parses, func(x api.Parse) bool { return x.End == end }); got != want {
			t.Fatalf("Threads(%s, %q, %d, %d) of %s = %v; the parses are %v", showProgram(p), s, at, end, show(e), threads, parses)
		}
	}
	return found, true
}

func TestP11_4SmallTrees(t *testing.T) {
	for _, e := range smallTrees(2) {
		for _, lines := range []bool{false, true} {
			p := compiled(t, e, lines)
			for _, s := range shortTexts(4) {
				for at := range len(s) + 1 {
					checkMeaning(t, e, p, s, at)
				}
			}
		}
	}
}

func TestP11_4RandomTrees(t *testing.T) {
	random := rand.New(rand.NewSource(1141))
	matches, others := 0, 0
	for _, e := range append(append(validTrees(1142, 8000, 4, 3), validTrees(1143, 1500, 3, 64)...), smallTrees(3)...) {
		p, err := reprog.Compile(e, random.Intn(2) == 0)
		if err != api.OK {
			continue
		}
		s := randomText(random, 8)
		found, compared := checkMeaning(t, e, p, s, random.Intn(len(s)+1))
		switch {
		case found:
			matches++
		case compared:
			others++
		}
	}
	if matches < 5000 || others < 5000 {
		t.Errorf("only %d matches were compared, and %d strings without one", matches, others)
	}
}

func TestP11_4Groups(t *testing.T) {
	compared := 0
	for _, pattern := range []string{"(a|ab)(c|bcd)(d*)", "((a)|(b))*", "(a*)*", "(a*)+", "(a|(b))*a", "(^a|b$)+", "((a{1,2})b?){2,3}"} {
		e := re(pattern)
		for _, lines := range []bool{false, true} {
			p := compiled(t, e, lines)
			for _, s := range append(shortTexts(5), "abcd", "xabcd", "abcdd", "aabaab") {
				for at := range len(s) + 1 {
					if _, ok := checkMeaning(t, e, p, s, at); ok {
						compared++
					}
				}
			}
		}
	}
	if compared < 10000 {
		t.Errorf("only %d cases were compared", compared)
	}
}

// TestP11_4Matches has programs with any number of InMatch at any places: one of them is among the threads exactly if there is a match.
func TestP11_4Matches(t *testing.T) {
	random := rand.New(rand.NewSource(1144))
	matches := 0
	for range 20000 {
		p, s := randomProgram(random, 10), randomText(random, 7)
		at := random.Intn(len(s) + 1)
		longest, found := 0, false
		for end := at; end <= len(s); end++ {
			isMatch := func(number int) bool { return p.Insts[number].Op == api.InMatch }
			if slices.ContainsFunc(resim.Threads(p, s, at, end), isMatch) {
				longest, found = end, true
			}
		}
		if got, ok := resim.Longest(p, s, at); got != longest || ok != found {
			t.Fatalf("Longest(%s, %q, %d) = %d, %v; by Threads it is %d, %v", showProgram(p), s, at, got, ok, longest, found)
		}
		if found {
			matches++
		}
	}
	if matches < 2000 {
		t.Errorf("only %d programs match", matches)
	}
}

// beginsLine reports whether all anchors ^ of a program hold at the end of this string.
func beginsLine(before string, lines bool) bool {
	return before == "" || lines && before[len(before)-1] == '\n'
}

// checkMoved compares the matches of the string rest after two other strings.
func checkMoved(t *testing.T, p api.ReProg, one, other, rest string) {
	t.Helper()
	x, y := len(one), len(other)
	oneTo, oneOk := resim.Longest(p, one+rest, x)
	otherTo, otherOk := resim.Longest(p, other+rest, y)
	if oneOk != otherOk || oneOk && oneTo-x != otherTo-y {
		t.Fatalf("Longest(%s) after %q and %q in %q is %d, %v and %d, %v", showProgram(p), one, other, rest, oneTo, oneOk, otherTo, otherOk)
	}
	for k := range len(rest) + 1 {
		oneThreads, otherThreads := resim.Threads(p, one+rest, x, x+k), resim.Threads(p, other+rest, y, y+k)
		if !slices.Equal(oneThreads, otherThreads) {
			t.Fatalf("Threads(%s) after %q and %q up to %d in %q are %v and %v", showProgram(p), one, other, k, rest, oneThreads, otherThreads)
		}
	}
	oneSpan, oneOk := resim.Search(p, one+rest, x)
	otherSpan, otherOk := resim.Search(p, other+rest, y)
	if oneOk {
		oneSpan.From, oneSpan.To = oneSpan.From-x+y, oneSpan.To-x+y
	}
	if oneSpan != otherSpan || oneOk != otherOk {
		t.Fatalf("Search(%s) after %q and %q in %q is, moved, %v, %v and %v, %v", showProgram(p), one, other, rest, oneSpan, oneOk, otherSpan, otherOk)
	}
}

func TestP11_5Context(t *testing.T) {
	random := rand.New(rand.NewSource(1151))
	befores := shortTexts(3)
	compared := 0
	check := func(p api.ReProg) {
		one, other := befores[random.Intn(len(befores))], befores[random.Intn(len(befores))]
		if random.Intn(4) == 0 {
			one = ""
		}
		if one != other && beginsLine(one, p.Lines) == beginsLine(other, p.Lines) {
			checkMoved(t, p, one, other, randomText(random, 7))
			compared++
		}
	}
	for range 30000 {
		check(randomProgram(random, 10))
	}
	for _, e := range append(validTrees(1152, 6000, 4, 3), smallTrees(2)...) {
		if p, err := reprog.Compile(e, random.Intn(2) == 0); err == api.OK {
			check(p)
		}
	}
	if compared < 10000 {
		t.Errorf("only %d cases were compared", compared)
	}
}

// TestP11_5LaterOffsets checks that Search from any offset up to From finds the same match, and from the next offset another one.
func TestP11_5LaterOffsets(t *testing.T) {
	random := rand.New(rand.NewSource(1153))
	compared := 0
	check := func(p api.ReProg, s string) {
		found, ok := resim.Search(p, s, 0)
		if !ok {
			return
		}
		for from := 1; from <= found.From; from++ {
			if got, ok := resim.Search(p, s, from); got != found || !ok {
				t.Fatalf("Search(%s, %q, %d) = %v, %v; from 0 it is %v", showProgram(p), s, from, got, ok, found)
			}
			compared++
		}
		if got, ok := resim.Search(p, s, found.From+1); ok && got.From <= found.From {
			t.Fatalf("Search(%s, %q, %d) = %v", showProgram(p), s, found.From+1, got)
		}
	}
	for range 60000 {
		check(randomProgram(random, 10), randomText(random, 9))
	}
	for _, e := range append(validTrees(1154, 6000, 4, 3), smallTrees(2)...) {
		if p, err := reprog.Compile(e, random.Intn(2) == 0); err == api.OK {
			check(p, randomText(random, 9))
		}
	}
	if compared < 3000 {
		t.Errorf("only %d offsets were compared", compared)
	}
}
