package resim_test

import (
	"math/rand"
	"slices"
	"strings"
	"sync"
	"testing"

	"texttools/api"
	"texttools/reprog"
	"texttools/resim"
)

// none is the end that a test writes where there is no match.
const none = -1

func checkLongest(t *testing.T, p api.ReProg, s string, at, want int) {
	t.Helper()
	wantOk := want != none
	if !wantOk {
		want = 0
	}
	if got, ok := resim.Longest(p, s, at); got != want || ok != wantOk {
		t.Errorf("Longest(%s, %.60q, %d) = %d, %v; want %d, %v", showProgram(p), s, at, got, ok, want, wantOk)
	}
}

// checkEnds checks Longest for the program of a pattern at each offset of a string.
func checkEnds(t *testing.T, pattern string, lines bool, s string, ends ...int) {
	t.Helper()
	if len(ends) != len(s)+1 {
		t.Fatalf("the test of %q and %q has %d ends", pattern, s, len(ends))
	}
	p := compiled(t, re(pattern), lines)
	for at, want := range ends {
		checkLongest(t, p, s, at, want)
	}
}

func TestP11_1Examples(t *testing.T) {
	checkEnds(t, "a*b", false, "aabb", 3, 3, 3, 4, none)
	checkEnds(t, "a|ab", false, "ab", 2, none, none)
	checkEnds(t, "", false, "ab", 0, 1, 2)
}

func TestP11_1Patterns(t *testing.T) {
	checkEnds(t, "", false, "", 0)
	checkEnds(t, "a", false, "", none)
	checkEnds(t, "a*", false, "", 0)
	checkEnds(t, "a*", false, "baac", 0, 3, 3, 3, 4)
	checkEnds(t, "a+", false, "baac", none, 3, 3, none, none)
	checkEnds(t, "a?", false, "aab", 1, 2, 2, 3)
	checkEnds(t, "ab|a", false, "ab", 2, none, none)
	checkEnds(t, "a|ab|abcd", false, "abcabcd", 2, none, none, 7, none, none, none, none)
	checkEnds(t, "(a|ab)(c|bcd)(d*)", false, "abcd", 4, none, none, none, none)
	checkEnds(t, "(aa|aaa)*", false, "aaaa", 4, 4, 4, 3, 4)
	checkEnds(t, "(ab|a)(bc)?", false, "abc", 3, none, none, none)
	checkEnds(t, "a{2,3}", false, "aaaa", 3, 4, 4, none, none)
	checkEnds(t, ".*", false, "a\nb", 3, 3, 3, 3)
	checkEnds(t, ".*b", false, "abab", 4, 4, 4, 4, none)
	checkEnds(t, "(a*)*", false, "aab", 2, 2, 2, 3)
	checkEnds(t, "(a*)+b", false, "aab", 3, 3, 3, none)
	checkEnds(t, "(()|a)*", false, "aa", 2, 2, 2)
}

func TestP11_1Anchors(t *testing.T) {
	checkEnds(t, "^", false, "a\nb", 0, none, none, none)
	checkEnds(t, "^", true, "a\nb", 0, none, 2, none)
	checkEnds(t, "^", true, "\n\n", 0, 1, 2)
	checkEnds(t, "$", false, "a\nb", none, none, none, 3)
	checkEnds(t, "$", true, "a\nb", none, 1, none, 3)
	checkEnds(t, "$", true, "\n\n", 0, 1, 2)
	checkEnds(t, "^$", false, "", 0)
	checkEnds(t, "^$", true, "", 0)
	checkEnds(t, "^$", false, "a\n", none, none, none)
	checkEnds(t, "^$", true, "a\n", none, none, 2)
	checkEnds(t, "^$", true, "\n\na", 0, 1, none, none)
	checkEnds(t, "^a$", true, "b\na\nb", none, none, 3, none, none, none)
	checkEnds(t, "^a$", false, "b\na\nb", none, none, none, none, none, none)
	checkEnds(t, "a$|a", false, "aa", 1, 2, none)
	checkEnds(t, "a^b", false, "ab", none, none, none)
	checkEnds(t, "a$b", false, "ab", none, none, none)
	newline := compiled(t, cat(a, end, set("\n"), begin, b), true)
	checkLongest(t, newline, "a\nb", 0, 3)
	newline.Lines = false
	checkLongest(t, newline, "a\nb", 0, none)
	all := compiled(t, rep(0, -1, cat(set("ab"), end, rep(0, 1, cat(set("\n"), begin)))), true)
	checkLongest(t, all, "a\nb\na", 0, 5)
	checkLongest(t, all, "a\nbb", 0, 2)
	checkLongest(t, all, "ab", 0, 0)
	checkLongest(t, all, "ab", 1, 2)
}

func TestP11_1Programs(t *testing.T) {
	for _, c := range []struct {
		insts string
		s     string
		ends  []int
	}{
		// No InMatch, and none that is reached.
		{"jump 0", "a", []int{none, none}},
		{"split 0 0", "a", []int{none, none}},
		{"set a, jump 0", "aa", []int{none, none, none}},
		{"jump 2, match, jump 2", "a", []int{none, none}},
		{"jump 1, jump 0, match", "a", []int{none, none}},
		{"split 1 2, jump 0, split 0 1, match", "a", []int{none, none}},
		// Several InMatch, and some before the end.
		{"match, match", "a", []int{0, 1}},
		{"match, jump 0", "a", []int{0, 1}},
		{"split 1 2, match, set a, match", "aa", []int{1, 2, 2}},
		{"split 2 1, match, set a, match", "aa", []int{1, 2, 2}},
		{"split 1 3, set a, match, set a, set a, match", "aaa", []int{2, 3, 3, none}},
		{"split 3 1, set a, match, set a, set a, match", "aaa", []int{2, 3, 3, none}},
		{"jump 2, match, set a, jump 1", "aa", []int{1, 2, none}},
		// Loops without a byte.
		{"split 0 1, match", "a", []int{0, 1}},
		{"split 1 0, split 0 2, set a, split 0 4, match", "aa", []int{2, 2, none}},
		{"split 2 1, jump 0, split 1 3, set ab, split 0 5, match", "ab", []int{2, 2, none}},
		// The empty set.
		{"set, match", "a\x00", []int{none, none, none}},
		{"split 1 2, set, match", "a", []int{0, 1}},
		// Steps back, and over instructions that nothing leads to.
		{"jump 3, match, set c, set a, set b, jump 1", "abab", []int{2, none, 4, none, none}},
		{"jump 4, set b, split 4 3, match, set a, jump 1", "ababab", []int{6, none, 6, none, 6, none, none}},
	} {
		p := programOf(c.insts, false)
		for at, want := range c.ends {
			checkLongest(t, p, c.s, at, want)
		}
	}
}

// TestP11_1Bytes has each byte against the set of it alone, and that of all others.
func TestP11_1Bytes(t *testing.T) {
	var all []byte
	for i := range 256 {
		all = append(all, byte(i))
	}
	for i := range 256 {
		one := charsetOf(string(all[i : i+1]))
		others := charsetOf(string(all[:i]) + string(all[i+1:]))
		p := api.ReProg{Insts: []api.ReInst{{Op: api.InSet, Set: one}, simple(api.InMatch)}}
		q := api.ReProg{Insts: []api.ReInst{{Op: api.InSet, Set: others}, simple(api.InMatch)}}
		for at := range 256 {
			same, other := at+1, none
			if at != i {
				same, other = none, at+1
			}
			checkLongest(t, p, string(all), at, same)
			checkLongest(t, q, string(all), at, other)
		}
	}
}

func TestP11_1FieldsThatAreNotLookedAt(t *testing.T) {
	p := programOf("split 1 3, set a, jump 0, begin, end, match", false)
	q := copyOfProgram(p)
	for i := range q.Insts {
		inst := &q.Insts[i]
		switch inst.Op {
		case api.InSet:
			inst.X, inst.Y = leastInt, 5
		case api.InSplit:
			inst.Set = charsetOf("abc")
		case api.InJump:
			inst.Set, inst.Y = charsetOf("abc"), greatestInt
		default:
			inst.Set, inst.X, inst.Y = charsetOf("abc"), -1, 4096
		}
	}
	for _, s := range []string{"", "a", "aa", "b", "ab"} {
		for at := range len(s) + 1 {
			to, ok := resim.Longest(p, s, at)
			if !ok {
				to = none
			}
			checkLongest(t, q, s, at, to)
			if got, want := resim.Threads(q, s, 0, at), resim.Threads(p, s, 0, at); !slices.Equal(got, want) {
				t.Errorf("Threads(%s, %q, 0, %d) = %v; want %v", showProgram(q), s, at, got, want)
			}
		}
	}
}

func TestP11_1Offsets(t *testing.T) {
	for _, pattern := range []string{"", "a*", "^", "$", "(a|b)*", ".*"} {
		for _, lines := range []bool{false, true} {
			p := compiled(t, re(pattern), lines)
			for _, s := range []string{"", "a", "ab\n"} {
				for _, at := range []int{-1, -2, len(s) + 1, len(s) + 2, len(s) + 64, leastInt, greatestInt, 1 << 32, -1 << 32} {
					checkLongest(t, p, s, at, none)
				}
			}
		}
	}
}

func TestP11_1NotValid(t *testing.T) {
	for _, p := range notValid() {
		if reprog.Valid(p) {
			t.Fatalf("the program %s is valid", showProgram(p))
		}
		for _, s := range []string{"", "a", "aa\n"} {
			for _, at := range []int{0, 1, len(s), -1, len(s) + 1} {
				checkLongest(t, p, s, at, none)
			}
		}
	}
}

// chain returns a program of count instructions: splits, each of which leads to the next one and the last one, and an InMatch.
func chain(count int) api.ReProg {
	var p api.ReProg
	for i := range count - 1 {
		p.Insts = append(p.Insts, api.ReInst{Op: api.InSplit, X: i + 1, Y: count - 1})
	}
	p.Insts = append(p.Insts, simple(api.InMatch))
	return p
}

func TestP11_1Limits(t *testing.T) {
	checkLongest(t, chain(4096), "a", 1, 1)
	checkLongest(t, chain(4097), "a", 1, none)
	// The way to the InMatch takes all instructions, the last one being 4095.
	jumps := api.ReProg{Insts: slices.Repeat([]api.ReInst{simple(api.InBegin)}, 4095)}
	jumps.Insts = append(jumps.Insts, simple(api.InMatch))
	checkLongest(t, jumps, "a", 0, 0)
	checkLongest(t, jumps, "a", 1, none)
	sets := api.ReProg{Insts: slices.Repeat(instsOf("set a"), 4095)}
	sets.Insts = append(sets.Insts, simple(api.InMatch))
	checkLongest(t, sets, strings.Repeat("a", 4096), 1, 4096)
	checkLongest(t, sets, strings.Repeat("a", 4096), 2, none)
	checkLongest(t, sets, strings.Repeat("a", 5000), 0, 4095)
	checkLongest(t, sets, strings.Repeat("a", 4094), 0, none)
	// Back and forth, so that the jumps do not lead ahead.
	weave := api.ReProg{Insts: make([]api.ReInst, 4096)}
	for i := range 2047 {
		weave.Insts[i] = api.ReInst{Op: api.InJump, X: 4094 - i}
		weave.Insts[4094-i] = api.ReInst{Op: api.InJump, X: i + 1}
	}
	weave.Insts[2047] = api.ReInst{Op: api.InJump, X: 4095}
	weave.Insts[4095] = simple(api.InMatch)
	checkLongest(t, weave, "", 0, 0)
}

// TestP11_1Time has patterns and strings for which a search that tries one way after the other would not end.
func TestP11_1Time(t *testing.T) {
	long := strings.Repeat("a", 1<<16)
	for _, pattern := range []string{"(a*)*b", "(a|aa)*b", "(a?){64}b", "(a*a*)*b", "((a|a)(a|a))*b", "(a|ab|aba)*bb"} {
		p := compiled(t, re(pattern), false)
		checkLongest(t, p, long, 0, none)
		want := 1<<16 + 1
		if strings.Contains(pattern, "{64}") {
			continue
		}
		if pattern == "(a|ab|aba)*bb" {
			checkLongest(t, p, long+"bb", 0, want+1)
			continue
		}
		checkLongest(t, p, long+"b", 0, want)
	}
	p := compiled(t, re("(a?){64}a{64}"), false)
	checkLongest(t, p, strings.Repeat("a", 64), 0, 64)
	checkLongest(t, p, strings.Repeat("a", 63), 0, none)
	checkLongest(t, p, strings.Repeat("a", 200), 0, 128)
}

// checkKept checks that a call changes nothing in its program, including the memory behind it.
func checkKept(t *testing.T, p api.ReProg, call func(api.ReProg)) {
	t.Helper()
	p.Insts = append(make([]api.ReInst, 0, len(p.Insts)+4), p.Insts...)
	before := slices.Clone(p.Insts[:cap(p.Insts)])
	call(p)
	if !slices.Equal(p.Insts[:cap(p.Insts)], before) {
		t.Fatalf("the program became %s", showProgram(p))
	}
}

func TestP11_1To3ArgumentsAreKept(t *testing.T) {
	random := rand.New(rand.NewSource(1111))
	for range 2000 {
		p, s := randomProgram(random, 8), randomText(random, 8)
		at := random.Intn(len(s) + 1)
		checkKept(t, p, func(p api.ReProg) { resim.Longest(p, s, at) })
		checkKept(t, p, func(p api.ReProg) { resim.Search(p, s, at) })
		checkKept(t, p, func(p api.ReProg) { resim.Threads(p, s, at, len(s)) })
	}
}

// TestP11_1To3AtTheSameTime calls the functions from several goroutines, so that state that they share would show.
func TestP11_1To3AtTheSameTime(t *testing.T) {
	patterns := []string{"(a|ab)*b", "a*b*", "[ab]{3}", "b$", "(a*)*"}
	var group sync.WaitGroup
	for k := range 8 {
		p := compiled(t, re(patterns[k%len(patterns)]), false)
		s := strings.Repeat("aabab", 3+k)
		all := tableOf(p, s)
		group.Go(func() {
			for i := range 300 {
				at := i % (len(s) + 1)
				wantTo, wantOk := all.longest(at)
				if to, ok := resim.Longest(p, s, at); to != wantTo || ok != wantOk {
					t.Errorf("Longest(%s, %q, %d) = %d, %v", showProgram(p), s, at, to, ok)
				}
				wantSpan, wantOk := all.search(at)
				if span, ok := resim.Search(p, s, at); span != wantSpan || ok != wantOk {
					t.Errorf("Search(%s, %q, %d) = %v, %v", showProgram(p), s, at, span, ok)
				}
				if got := resim.Threads(p, s, at, len(s)); !slices.Equal(got, all.threadsOf(at, len(s))) {
					t.Errorf("Threads(%s, %q, %d, %d) = %v", showProgram(p), s, at, len(s), got)
				}
			}
		})
	}
	group.Wait()
}
