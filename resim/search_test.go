package resim_test

import (
	"strings"
	"testing"

	"texttools/api"
	"texttools/resim"
)

// nowhere is the span that a test writes where there is no match.
var nowhere = api.Span{From: none, To: none}

func checkSearch(t *testing.T, p api.ReProg, s string, from int, want api.Span) {
	t.Helper()
	wantOk := want != nowhere
	if !wantOk {
		want = api.Span{}
	}
	if got, ok := resim.Search(p, s, from); got != want || ok != wantOk {
		t.Errorf("Search(%s, %.60q, %d) = %v, %v; want %v, %v", showProgram(p), s, from, got, ok, want, wantOk)
	}
}

// checkFound checks Search for the program of a pattern from an offset on.
func checkFound(t *testing.T, pattern string, lines bool, s string, from int, want api.Span) {
	t.Helper()
	checkSearch(t, compiled(t, re(pattern), lines), s, from, want)
}

func TestP11_2Examples(t *testing.T) {
	checkFound(t, "a*b", false, "aabb", 0, api.Span{From: 0, To: 3})
	for k := range 4 {
		checkFound(t, "", false, "abc", k, api.Span{From: k, To: k})
		checkFound(t, "", true, "a\nc", k, api.Span{From: k, To: k})
	}
}

func TestP11_2Leftmost(t *testing.T) {
	checkFound(t, "a", false, "", 0, nowhere)
	checkFound(t, "a", false, "bbb", 0, nowhere)
	checkFound(t, "a", false, "bba", 0, api.Span{From: 2, To: 3})
	checkFound(t, "a", false, "bba", 2, api.Span{From: 2, To: 3})
	checkFound(t, "a", false, "bba", 3, nowhere)
	checkFound(t, "b*c", false, "abbbc", 0, api.Span{From: 1, To: 5})
	// An empty match at from is before all others.
	checkFound(t, "a*", false, "baa", 0, api.Span{From: 0, To: 0})
	checkFound(t, "a*", false, "baa", 1, api.Span{From: 1, To: 3})
	checkFound(t, "a*", false, "baa", 2, api.Span{From: 2, To: 3})
	checkFound(t, "a*", false, "baa", 3, api.Span{From: 3, To: 3})
	checkFound(t, "a*|b{2}", false, "cbb", 0, api.Span{From: 0, To: 0})
	// A match that ends first is not the one that begins first.
	checkFound(t, "abcd|bc", false, "abcd", 0, api.Span{From: 0, To: 4})
	checkFound(t, "bc|abcd", false, "abcd", 0, api.Span{From: 0, To: 4})
	checkFound(t, "abcd|bc", false, "abce", 0, api.Span{From: 1, To: 3})
	checkFound(t, "abcd|bc|c", false, "abce", 0, api.Span{From: 1, To: 3})
	checkFound(t, "abcd|bcde|c", false, "abcde", 0, api.Span{From: 0, To: 4})
	checkFound(t, "abcdx|bcde|c", false, "abcde", 0, api.Span{From: 1, To: 5})
	checkFound(t, "abcdx|bcdx|c", false, "abcde", 0, api.Span{From: 2, To: 3})
	checkFound(t, "abcdx|bcd|cdefgh", false, "abcdefgh", 0, api.Span{From: 1, To: 4})
	checkFound(t, "abcdef|bc|cdefgh", false, "abcdefgh", 0, api.Span{From: 0, To: 6})
	checkFound(t, "x*abcdef|b|d", false, "abcdef", 0, api.Span{From: 0, To: 6})
	// After a first match begins a longer one later.
	checkFound(t, "ab|bcd", false, "abcd", 0, api.Span{From: 0, To: 2})
	checkFound(t, "a|bcdef", false, "abcdef", 0, api.Span{From: 0, To: 1})
}

func TestP11_2Longest(t *testing.T) {
	checkFound(t, "a|ab", false, "cab", 0, api.Span{From: 1, To: 3})
	checkFound(t, "a|ab|abcd", false, "xabcabcd", 0, api.Span{From: 1, To: 3})
	checkFound(t, "a|ab|abcd", false, "xabcabcd", 2, api.Span{From: 4, To: 8})
	checkFound(t, "(a|ab)(c|bcd)(d*)", false, "xabcd", 0, api.Span{From: 1, To: 5})
	checkFound(t, ".*", false, "abc", 1, api.Span{From: 1, To: 3})
	checkFound(t, "b.*a", false, "abcacab", 0, api.Span{From: 1, To: 6})
	checkFound(t, "a+", false, "baaabaaaa", 0, api.Span{From: 1, To: 4})
	checkFound(t, "a+", false, "baaabaaaa", 4, api.Span{From: 5, To: 9})
	checkFound(t, "a(b*c)?", false, "abbbbac", 0, api.Span{From: 0, To: 1})
	checkFound(t, "a(b*c)?", false, "abbbbca", 0, api.Span{From: 0, To: 6})
	checkFound(t, "(ab)*", false, "ababa", 0, api.Span{From: 0, To: 4})
	// The same instruction is reached from several offsets: the least one counts.
	checkFound(t, "a*b", false, "aaab", 0, api.Span{From: 0, To: 4})
	checkFound(t, "a*b", false, "aaab", 1, api.Span{From: 1, To: 4})
	checkFound(t, "(ab|b)c*", false, "abcc", 0, api.Span{From: 0, To: 4})
	checkFound(t, "(b|ab)c*", false, "abcc", 0, api.Span{From: 0, To: 4})
	checkFound(t, "[ab]{2}", false, "cabab", 0, api.Span{From: 1, To: 3})
	checkFound(t, "[ab]*c", false, "ababac", 2, api.Span{From: 2, To: 6})
}

func TestP11_2Anchors(t *testing.T) {
	checkFound(t, "^", false, "a\nb", 0, api.Span{From: 0, To: 0})
	checkFound(t, "^", false, "a\nb", 1, nowhere)
	checkFound(t, "^", true, "a\nb", 1, api.Span{From: 2, To: 2})
	checkFound(t, "^", true, "a\nb", 2, api.Span{From: 2, To: 2})
	checkFound(t, "^", true, "a\nb", 3, nowhere)
	checkFound(t, "^", true, "a\n", 1, api.Span{From: 2, To: 2})
	checkFound(t, "$", false, "a\nb", 0, api.Span{From: 3, To: 3})
	checkFound(t, "$", true, "a\nb", 0, api.Span{From: 1, To: 1})
	checkFound(t, "$", true, "a\nb", 2, api.Span{From: 3, To: 3})
	checkFound(t, "^b", true, "ab\nbb", 0, api.Span{From: 3, To: 4})
	checkFound(t, "^b", false, "ab\nbb", 0, nowhere)
	checkFound(t, "^b", false, "bb", 1, nowhere)
	checkFound(t, "b$", true, "ba\nbb\nb", 0, api.Span{From: 4, To: 5})
	checkFound(t, "b$", false, "ba\nbb\nb", 0, api.Span{From: 6, To: 7})
	checkFound(t, "b*$", false, "bbabb", 0, api.Span{From: 3, To: 5})
	checkFound(t, "b*$", false, "bba", 0, api.Span{From: 3, To: 3})
	checkFound(t, "^$", true, "a\n\nb", 0, api.Span{From: 2, To: 2})
	checkFound(t, "^$", false, "a\n\nb", 0, nowhere)
	checkFound(t, "^$", false, "", 0, api.Span{From: 0, To: 0})
	checkFound(t, "$^", true, "ab\n\n", 0, api.Span{From: 3, To: 3})
}

func TestP11_2Programs(t *testing.T) {
	for _, c := range []struct {
		insts string
		s     string
		from  int
		want  api.Span
	}{
		{"jump 0", "a", 0, nowhere},
		{"split 0 0", "a", 1, nowhere},
		{"jump 2, match, jump 2", "a", 0, nowhere},
		{"match, jump 0", "a", 1, api.Span{From: 1, To: 1}},
		{"set, match", "aaa", 0, nowhere},
		{"split 1 3, set a, match, set b, set a, match", "cbaa", 0, api.Span{From: 1, To: 3}},
		{"split 3 1, set a, match, set b, set a, match", "cbba", 0, api.Span{From: 2, To: 4}},
		{"split 1 3, set a, match, set b, set a, match", "cbca", 0, api.Span{From: 3, To: 4}},
		{"split 0 1, set b, split 0 3, match", "abbb", 0, api.Span{From: 1, To: 4}},
	} {
		checkSearch(t, programOf(c.insts, false), c.s, c.from, c.want)
	}
}

func TestP11_2Offsets(t *testing.T) {
	for _, pattern := range []string{"", "a*", "^", "$", "(a|b)*", ".*", "a"} {
		for _, lines := range []bool{false, true} {
			for _, s := range []string{"", "a", "ab\n"} {
				for _, from := range []int{-1, -2, len(s) + 1, len(s) + 2, len(s) + 64, leastInt, greatestInt, 1 << 32, -1 << 32} {
					checkFound(t, pattern, lines, s, from, nowhere)
				}
			}
		}
	}
}

func TestP11_2NotValid(t *testing.T) {
	for _, p := range notValid() {
		for _, s := range []string{"", "a", "aa\n"} {
			for _, from := range []int{0, 1, len(s), -1, len(s) + 1} {
				checkSearch(t, p, s, from, nowhere)
			}
		}
	}
}

func TestP11_2Limits(t *testing.T) {
	checkSearch(t, chain(4096), "ab", 1, api.Span{From: 1, To: 1})
	checkSearch(t, chain(4097), "ab", 1, nowhere)
	sets := api.ReProg{Insts: append(instsOf(strings.Repeat("set a, ", 4094)+"set b"), simple(api.InMatch))}
	text := strings.Repeat("a", 4200)
	checkSearch(t, sets, text+"b", 0, api.Span{From: 4200 - 4094, To: 4201})
	checkSearch(t, sets, text+"b", 4200-4094+1, nowhere)
	checkSearch(t, sets, text, 0, nowhere)
}

// TestP11_2OnePass has strings on which a search that begins anew at each offset would not end, since each time it reads on to the end of the string.
func TestP11_2OnePass(t *testing.T) {
	const size = 1 << 22
	long := strings.Repeat("a", size)
	checkFound(t, "a*b", false, long, 0, nowhere)
	checkFound(t, "a*b", false, long+"b", 5, api.Span{From: 5, To: size + 1})
	checkFound(t, "a.*b|c", false, long+"c", 0, api.Span{From: size, To: size + 1})
	checkFound(t, "(a|aa)*b", false, long+"c", 0, nowhere)
	checkFound(t, "^a*b|a$", false, long, 1, api.Span{From: size - 1, To: size})
}

// TestP11_2Time has a large program and a long string: the work is at most their product.
func TestP11_2Time(t *testing.T) {
	p := compiled(t, re("([ab]{0,40}c){0,12}d"), false)
	if len(p.Insts) < 900 {
		t.Fatalf("the program has only %d instructions", len(p.Insts))
	}
	long := strings.Repeat("ab", 1<<14)
	checkSearch(t, p, long, 0, nowhere)
	checkSearch(t, p, long+"cd", 0, api.Span{From: 1<<15 - 40, To: 1<<15 + 2})
}
