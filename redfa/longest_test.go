package redfa_test

import (
	"math/rand"
	"strings"
	"testing"

	"texttools/api"
	"texttools/redfa"
)

const none = -1

// checkLongest checks the result from one offset; none where there is no match.
func checkLongest(t *testing.T, d api.Dfa, s string, at, want int) {
	t.Helper()
	to, ok := redfa.Longest(d, s, at)
	if ok != (want != none) || ok && to != want || !ok && to != 0 {
		t.Errorf("Longest(%s, %.100q, %d) = %d, %v; want %d", showDfa(d), s, at, to, ok, want)
	}
}

// checkEnds checks the results from all offsets of a string.
func checkEnds(t *testing.T, d api.Dfa, s string, ends ...int) {
	t.Helper()
	if len(ends) != len(s)+1 {
		t.Fatalf("%d ends for %q", len(ends), s)
	}
	for at, want := range ends {
		checkLongest(t, d, s, at, want)
	}
}

func TestP12_3Longest(t *testing.T) {
	stars := validDfa(classesOf("a"), "- 2 - yyy", "- 2 - yyy", "- 2 - yyy")
	checkEnds(t, stars, "", 0)
	checkEnds(t, stars, "aab", 2, 2, 2, 3)
	checkEnds(t, stars, "baa", 0, 3, 3, 3)
	odd := validDfa(classesOf("a"), "- 1 - nnn", "- 0 - yyy")
	checkEnds(t, odd, "", none)
	checkEnds(t, odd, "aaa", 3, 3, 2, 3)
	checkEnds(t, odd, "aaaab", 3, 3, 4, 3, 4, 5)
	// The greatest offset counts, not the first one.
	far := validDfa(classesOf("a", "b"), "- 1 2 - ynnn", "1 1 2 - nnnn", "- 2 1 - nnyn")
	checkEnds(t, far, "caa", 0, none, none, none)
	checkLongest(t, far, "caba", 0, 0)
	checkLongest(t, far, "bbb", 0, 1)
	// What comes before which byte, and at the end.
	before := validDfa(classesOf("a", "b"), "- 1 1 - nynn", "- 1 1 - nnyn")
	checkLongest(t, before, "aab", 0, 2)
	checkLongest(t, before, "abaa", 0, 1)
	checkLongest(t, before, "aaaa", 0, 0)
	checkLongest(t, before, "baaa", 0, none)
	checkLongest(t, before, "aac", 0, 0)
	checkLongest(t, before, "cab", 0, none)
	end := validDfa(classesOf("a"), "- 1 - nny", "- 0 - nnn")
	checkEnds(t, end, "aaaa", 4, 4, none, 4, none)
	checkEnds(t, end, "aaa", none, none, 3, none)
	checkEnds(t, end, "", 0)
	checkEnds(t, end, "aab", none, none, none, none)
}

func TestP12_3FirstStates(t *testing.T) {
	d := validDfa(classesOf("a"), "- - - yyy", "- - - nnn")
	checkEnds(t, d, "", 0)
	checkEnds(t, d, "a\nb\n\n", 0, none, none, none, none, none)
	checkEnds(t, withLines(d), "a\nb\n\n", 0, none, 2, none, 4, 5)
	checkEnds(t, withLines(d), "\r\x0b\x8a\n", 0, none, none, none, 4)
	d = validDfa(classesOf("a"), "- - - nnn", "- - - yyy")
	checkEnds(t, d, "a\nb\n", none, 1, 2, 3, 4)
	checkEnds(t, withLines(d), "a\nb\n", none, 1, none, 3, none)
	// The first state depends on where the string begins, not on where the match goes on.
	d = validDfa(classesOf("\n"), "- 2 - nnn", "- 2 - yyy", "- - - yyy")
	checkEnds(t, withLines(d), "\n\n\n", 1, 2, 3, none)
}

func TestP12_3Built(t *testing.T) {
	ab := built(t, compiled(t, re("a$|ab"), false))
	checkEnds(t, ab, "aab", none, 3, none, none)
	checkEnds(t, ab, "ab", 2, none, none)
	checkEnds(t, ab, "ba", none, 2, none)
	checkEnds(t, ab, "a\n", none, none, none)
	ab = built(t, compiled(t, re("a$|ab"), true))
	checkEnds(t, ab, "a\nab", 1, none, 4, none, none)
	begin := built(t, compiled(t, re("^a*"), true))
	checkEnds(t, begin, "aa\naab", 2, none, none, 5, none, none, none)
	begin = built(t, compiled(t, re("^a*"), false))
	checkEnds(t, begin, "aa\naab", 2, none, none, none, none, none, none)
}

func TestP12_3Bytes(t *testing.T) {
	var all []byte
	for c := range 256 {
		all = append(all, byte(c))
	}
	for c := range 256 {
		d := validDfa(classesOf(string(all[c:c+1])), "- 1 - nnn", "- - - yyy")
		d.Next[1], d.Accept[1] = d.Next[0], []bool{false, true, false}
		for at := range 256 {
			want := none
			if at == c {
				want = at
			}
			if at == 0 {
				want = none
			}
			checkLongest(t, d, string(all), at, want)
		}
	}
}

func TestP12_3Offsets(t *testing.T) {
	for _, lines := range []bool{false, true} {
		d := validDfa(classesOf(), "0 - yy", "1 - yy")
		d.Lines = lines
		for _, s := range []string{"", "a", "a\n"} {
			for at := range len(s) + 1 {
				checkLongest(t, d, s, at, len(s))
			}
			for _, at := range []int{-1, -2, len(s) + 1, len(s) + 2, leastInt, greatestInt, 1 << 32, -1 << 32} {
				checkLongest(t, d, s, at, none)
			}
		}
	}
}

func TestP12_3NotValid(t *testing.T) {
	for _, d := range notValidDfas() {
		for _, s := range []string{"", "a", "ab", "\x00\xff"} {
			for at := -1; at <= len(s)+1; at++ {
				checkLongest(t, d, s, at, none)
				checkLongest(t, withLines(d), s, at, none)
			}
		}
	}
}

func TestP12_3Definition(t *testing.T) {
	random := rand.New(rand.NewSource(1231))
	found, longer, nowhere := 0, 0, 0
	for range 30000 {
		d, s := randomDfa(random, 8), randomText(random, 9)
		for at := -1; at <= len(s)+1; at++ {
			want, ok := definedLongest(d, s, at)
			switch {
			case !ok:
				want = none
				nowhere++
			case want > at:
				longer++
			default:
				found++
			}
			checkLongest(t, d, s, at, want)
		}
		if t.Failed() {
			return
		}
	}
	if min(found, longer, nowhere) < 10000 {
		t.Errorf("only %d, %d and %d cases were compared", found, longer, nowhere)
	}
}

func TestP12_3LongStrings(t *testing.T) {
	d := built(t, compiled(t, re("(a|b)*c?"), false))
	s := strings.Repeat("ab", 1<<20)
	checkLongest(t, d, s, 0, 1<<21)
	checkLongest(t, d, s+"cc", 7, 1<<21+1)
	// After the last state that follows nothing is looked at.
	stop := built(t, compiled(t, re("ba"), false))
	for at := 1; at < 1<<12; at += 2 {
		checkLongest(t, stop, s, at, at+2)
	}
}
