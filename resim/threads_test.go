package resim_test

import (
	"slices"
	"strings"
	"testing"

	"texttools/api"
	"texttools/resim"
)

func checkThreads(t *testing.T, p api.ReProg, s string, at, end int, want ...int) {
	t.Helper()
	if got := resim.Threads(p, s, at, end); !slices.Equal(got, want) {
		t.Errorf("Threads(%s, %.60q, %d, %d) = %v; want %v", showProgram(p), s, at, end, got, want)
	}
}

func TestP11_3Examples(t *testing.T) {
	// 0 split 1 3, 1 set a, 2 jump 5, 3 set a, 4 set b, 5 match.
	p := compiled(t, re("a|ab"), false)
	checkThreads(t, p, "ab", 0, 0, 1, 3)
	checkThreads(t, p, "ab", 0, 1, 4, 5)
	checkThreads(t, p, "ab", 0, 2, 5)
	checkThreads(t, p, "ab", 1, 1, 1, 3)
	checkThreads(t, p, "ab", 1, 2)
	checkThreads(t, p, "ab", 2, 2, 1, 3)
}

func TestP11_3Steps(t *testing.T) {
	p := programOf("split 1 3, set a, jump 0, match", false)
	for at := range 4 {
		for end := at; end < 4; end++ {
			checkThreads(t, p, "aaa", at, end, 1, 3)
		}
	}
	checkThreads(t, p, "aba", 0, 1, 1, 3)
	checkThreads(t, p, "aba", 0, 2)
	checkThreads(t, p, "aba", 0, 3)
	checkThreads(t, p, "aba", 1, 1, 1, 3)
	checkThreads(t, p, "aba", 2, 3, 1, 3)
	q := programOf("set a, set b, set a, match", false)
	for end := range 4 {
		checkThreads(t, q, "abab", 0, end, end)
	}
	checkThreads(t, q, "abab", 0, 4)
	checkThreads(t, programOf("match", false), "", 0, 0, 0)
	checkThreads(t, programOf("match", false), "a", 0, 1)
}

// TestP11_3Order has programs in which the threads are reached in other orders than the ascending one.
func TestP11_3Order(t *testing.T) {
	checkThreads(t, programOf("split 5 1, set a, match, set b, match, split 3 2", false), "ab", 0, 0, 1, 2, 3)
	checkThreads(t, programOf("split 3 1, split 2 4, match, set a, set a, jump 2", false), "a", 0, 0, 2, 3, 4)
	p := programOf("split 4 1, set a, set b, match, set a, jump 3", false)
	checkThreads(t, p, "ab", 0, 0, 1, 4)
	checkThreads(t, p, "ab", 0, 1, 2, 3)
	checkThreads(t, p, "ab", 0, 2, 3)
	var q api.ReProg
	for i := range 200 {
		q.Insts = append(q.Insts, api.ReInst{Op: api.InSplit, X: 200 + (i*37+11)%200, Y: i + 1})
	}
	q.Insts = append(q.Insts, slices.Repeat(instsOf("set a"), 200)...)
	q.Insts = append(q.Insts, simple(api.InMatch))
	var all, next []int
	for i := range 200 {
		all, next = append(all, 200+i), append(next, 201+i)
	}
	checkThreads(t, q, "ab", 0, 0, all...)
	checkThreads(t, q, "ab", 0, 1, next...)
	checkThreads(t, q, "ab", 1, 1, all...)
	checkThreads(t, q, "ab", 0, 2)
}

// TestP11_3OnlySomeInstructions has threads of all kinds, of which only InSet and InMatch count, each once.
func TestP11_3OnlySomeInstructions(t *testing.T) {
	checkThreads(t, programOf("jump 0", false), "a", 0, 0)
	checkThreads(t, programOf("split 0 0", false), "a", 0, 0)
	checkThreads(t, programOf("split 1 2, begin, end, match", false), "a", 0, 0)
	checkThreads(t, programOf("split 1 2, begin, end, match", false), "a", 1, 1, 3)
	checkThreads(t, programOf("split 1 2, begin, end, match", false), "", 0, 0, 3)
	checkThreads(t, programOf("split 2 2, match, split 3 3, set a, split 1 3, match", false), "aa", 0, 0, 3)
	checkThreads(t, programOf("split 2 2, match, split 3 3, set a, split 1 3, match", false), "aa", 0, 1, 1, 3)
	checkThreads(t, programOf("split 1 2, set, set, match", false), "a", 0, 0, 1, 2)
	checkThreads(t, programOf("split 1 2, set, set, match", false), "a", 0, 1)
	checkThreads(t, programOf("split 1 2, match, match, match", false), "a", 1, 1, 1, 2)
}

func TestP11_3Anchors(t *testing.T) {
	p := programOf(`split 1 3, begin, set a, end, set \n, split 1 6, match`, false)
	checkThreads(t, p, "\na", 0, 0, 2)
	checkThreads(t, p, "\na", 1, 1)
	checkThreads(t, p, "\na", 2, 2, 4)
	checkThreads(t, p, "\n", 1, 1, 4)
	p.Lines = true
	checkThreads(t, p, "\na", 0, 0, 2, 4)
	checkThreads(t, p, "\na", 0, 1, 2, 6)
	checkThreads(t, p, "\na", 0, 2, 4)
	checkThreads(t, p, "\na", 1, 1, 2)
	checkThreads(t, p, "\na", 2, 2, 4)
	checkThreads(t, p, "\n\n", 0, 1, 2, 6)
	checkThreads(t, p, "a\n", 1, 1, 4)
	checkThreads(t, p, "a\n", 1, 2, 2, 6)
}

// TestP11_3NotCutOff has ends beyond matches: the threads are those of all ways, not only of the longest match.
func TestP11_3NotCutOff(t *testing.T) {
	p := programOf("split 1 3, set a, match, set ab, split 3 5, match", false)
	checkThreads(t, p, "abb", 0, 1, 2, 3, 5)
	checkThreads(t, p, "abb", 0, 2, 3, 5)
	checkThreads(t, p, "abb", 0, 3, 3, 5)
	// No threads come from offsets after at.
	q := compiled(t, re("ab"), false)
	checkThreads(t, q, "aab", 0, 1, 1)
	checkThreads(t, q, "aab", 0, 2)
	checkThreads(t, q, "aab", 0, 3)
	checkThreads(t, q, "aab", 1, 3, 2)
}

func TestP11_3Offsets(t *testing.T) {
	for _, pattern := range []string{"", "a*", "^", "$", "(a|b)*", ".*"} {
		for _, lines := range []bool{false, true} {
			p := compiled(t, re(pattern), lines)
			for _, s := range []string{"", "a", "ab\n"} {
				outside := []int{-1, -2, len(s) + 1, len(s) + 2, len(s) + 64, leastInt, greatestInt, 1 << 32, -1 << 32}
				for _, x := range outside {
					for y := range len(s) + 1 {
						checkThreads(t, p, s, x, y)
						checkThreads(t, p, s, y, x)
					}
					for _, y := range outside {
						checkThreads(t, p, s, x, y)
					}
				}
				for at := range len(s) + 1 {
					for end := range at {
						checkThreads(t, p, s, at, end)
					}
				}
			}
		}
	}
}

func TestP11_3NotValid(t *testing.T) {
	for _, p := range notValid() {
		for _, s := range []string{"", "a", "aa\n"} {
			for at := -1; at <= len(s)+1; at++ {
				checkThreads(t, p, s, at, at)
				checkThreads(t, p, s, at, len(s))
			}
		}
	}
}

func TestP11_3Limits(t *testing.T) {
	checkThreads(t, chain(4096), "a", 0, 0, 4095)
	checkThreads(t, chain(4097), "a", 0, 0)
	sets := api.ReProg{Insts: append(slices.Repeat(instsOf("set a"), 4095), simple(api.InMatch))}
	text := strings.Repeat("a", 5000)
	for _, end := range []int{0, 1, 63, 64, 65, 2048, 4094, 4095} {
		checkThreads(t, sets, text, 0, end, end)
	}
	checkThreads(t, sets, text, 0, 4096)
	checkThreads(t, sets, text, 5000-4095, 5000, 4095)
	// All instructions at once: each splits off a thread, as long as there are bytes.
	var all api.ReProg
	for i := range 2047 {
		all.Insts = append(all.Insts, api.ReInst{Op: api.InSplit, X: 2*i + 1, Y: 2*i + 2}, instsOf("set a")[0])
	}
	all.Insts = append(all.Insts, simple(api.InMatch))
	var numbers []int
	for i := range 2047 {
		numbers = append(numbers, 2*i+1)
	}
	for _, end := range []int{0, 1, 100} {
		checkThreads(t, all, text, 0, end, append(numbers[end:len(numbers):len(numbers)], 4094)...)
	}
	checkThreads(t, all, strings.Repeat("a", 2047), 0, 2047, 4094)
	checkThreads(t, all, strings.Repeat("a", 2048), 0, 2048)
}

func TestP11_3NewMemory(t *testing.T) {
	p := programOf("split 1 3, set a, match, set ab, split 3 5, match", false)
	first := resim.Threads(p, "abb", 0, 1)
	second := resim.Threads(p, "abb", 0, 1)
	for i := range first {
		first[i] = -7
	}
	if !slices.Equal(second, []int{2, 3, 5}) {
		t.Errorf("the second result became %v", second)
	}
	checkThreads(t, p, "abb", 0, 1, 2, 3, 5)
}
