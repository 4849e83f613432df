package rematch_test

import (
	"strings"
	"testing"

	"texttools/api"
	"texttools/rematch"
)

// as returns a string of count times the byte a.
func as(count int) string {
	return strings.Repeat("a", count)
}

// checkFits checks that there are so many parses at the offset 0, without an error.
func checkFits(t *testing.T, name string, e api.Re, s string, count int) {
	t.Helper()
	list, err := rematch.Parses(e, s, 0, false)
	if err != api.OK || len(list) != count {
		t.Errorf("%s: Parses of %s and %.20q, with %d bytes: %d parses, %v; want %d", name, show(e), s, len(s), len(list), err, count)
	}
	if match, ok, err := rematch.At(e, s, 0, false); err != api.OK || ok != (count > 0) {
		t.Errorf("%s: At of %s and %.20q, with %d bytes: %v, %v, %v", name, show(e), s, len(s), match, ok, err)
	}
}

func checkExhausts(t *testing.T, name string, e api.Re, s string) {
	t.Helper()
	checkErrors(t, name, e, s, 0, api.ErrBudget)
}

// pairs returns a tree with (first + 1) * (second + 1) parses for enough bytes a: two groups of up to so many bytes.
func pairs(first, second int) api.Re {
	return cat(group(1, upTo(first)), group(2, upTo(second)))
}

func TestP9_1BudgetOfSequences(t *testing.T) {
	s := as(300)
	checkFits(t, "4096 elements at the end", cat(group(1, upTo(15)), group(2, upTo(255))), s, 4096)
	checkExhausts(t, "4097 elements at the end", cat(group(1, upTo(16)), group(2, upTo(240))), s)
	checkFits(t, "64 times 64 elements", pairs(63, 63), s, 4096)
	checkExhausts(t, "64 times 65 elements", pairs(63, 64), s)
	// Nothing is left at the end; the lists before count all the same.
	checkFits(t, "4096 elements in the middle", cat(group(1, upTo(15)), group(2, upTo(255)), b), s, 0)
	checkExhausts(t, "4097 elements in the middle", cat(group(1, upTo(16)), group(2, upTo(240)), b), s)
	checkExhausts(t, "4097 elements in the middle", cat(empty, group(1, upTo(16)), empty, group(2, upTo(240)), empty, b), s)
	checkFits(t, "no element at the beginning", cat(b, group(1, upTo(16)), group(2, upTo(240))), s, 0)
	checkFits(t, "three groups of 16", cat(group(1, upTo(15)), group(2, upTo(15)), group(3, upTo(15))), s, 4096)
	checkExhausts(t, "three groups of more", cat(group(1, upTo(15)), group(2, upTo(15)), group(3, upTo(16))), s)
	checkFits(t, "4096 elements within a tree", alt(b, group(1, cat(group(2, upTo(15)), group(3, upTo(255)), b))), s, 0)
	checkExhausts(t, "4097 elements within a tree", alt(b, group(1, cat(group(2, upTo(16)), group(3, upTo(240)), b))), s)
}

func TestP9_1BudgetOfEqualElements(t *testing.T) {
	checkFits(t, "equal elements", cat(star(a), star(a), star(a)), as(100), 101)
	checkFits(t, "equal elements", cat(star(a), star(a)), as(1000), 1001)
	checkFits(t, "equal elements with a group", cat(group(1, upTo(15)), upTo(64), upTo(64), upTo(127)), as(300), 4096)
	checkExhausts(t, "too many others", cat(group(1, upTo(16)), upTo(64), upTo(64), upTo(112)), as(300))
	checkFits(t, "equal elements, and none at the end", cat(star(a), star(a), star(a), b), as(100), 0)
}

func TestP9_1BudgetOfAlternatives(t *testing.T) {
	more := alt(star(a), cat(star(a), c))
	checkFits(t, "4096 ends", more, as(4094)+"c", 4096)
	checkExhausts(t, "4097 ends", more, as(4095)+"c")
	checkFits(t, "4096 parses with groups", alt(group(1, star(a)), group(2, star(a))), as(2047), 4096)
	checkExhausts(t, "4098 parses with groups", alt(group(1, star(a)), group(2, star(a))), as(2048))
	checkExhausts(t, "4097 parses with groups", alt(group(1, star(a)), group(2, star(a)), group(3, empty)), as(2047))
	checkExhausts(t, "4097 parses, none of which goes on", cat(more, b), as(4095)+"c")
	checkFits(t, "equal parses", alt(star(a), star(a)), as(4095), 4096)
	checkFits(t, "equal parses", alt(several(299, star(a))...), as(100), 101)
	checkFits(t, "equal parses and one more", alt(star(a), star(a), star(a), cat(star(a), c), star(a)), as(4094)+"c", 4096)
	checkExhausts(t, "one that exhausts the budget", alt(b, empty, star(a)), as(4096))
	checkExhausts(t, "one that exhausts the budget", alt(star(a), b, empty), as(4096))
}

func TestP9_1BudgetOfSituations(t *testing.T) {
	checkFits(t, "4096 situations", star(a), as(4095), 4096)
	checkExhausts(t, "4097 situations", star(a), as(4096))
	checkFits(t, "4096 situations and more bytes", star(a), as(4095)+"b"+as(5000), 4096)
	// The list is shorter than 4096, since the situation with no repetition does not belong to it.
	checkFits(t, "4096 situations", rep(1, -1, a), as(4095), 4095)
	checkExhausts(t, "4097 situations", rep(1, -1, a), as(4096))
	checkFits(t, "4096 situations", rep(64, -1, a), as(4095), 4032)
	checkExhausts(t, "4097 situations", rep(64, -1, a), as(4096))
	checkFits(t, "4096 situations", rep(1, 1, cat(c, pairs(62, 64))), "c"+as(200), 4095)
	checkExhausts(t, "4097 situations", rep(1, 1, cat(c, pairs(63, 63))), "c"+as(200))
	checkFits(t, "4096 situations with the empty one", rep(0, 1, pairs(63, 63)), as(200), 4096)
	checkFits(t, "spans of one group", star(group(1, star(a))), as(90), 4096)
	checkExhausts(t, "spans of one group", star(group(1, star(a))), as(91))
	checkFits(t, "4096 situations, none of which goes on", cat(star(a), b), as(4095), 0)
	checkExhausts(t, "4097 situations, none of which goes on", cat(star(a), b), as(4096))
}

func TestP9_1BudgetOfCounts(t *testing.T) {
	upToThree := alt(a, cat(a, a), cat(a, a, a))
	// After c repetitions there are 2 * c + 1 ends: 4096 situations, of which all belong to the list before it is sorted.
	checkFits(t, "4096 situations with few ends", rep(0, 63, upToThree), as(300), 190)
	checkExhausts(t, "4225 situations with few ends", rep(0, 64, upToThree), as(300))
	checkFits(t, "few of them in the list", rep(63, 63, upToThree), as(300), 127)
	checkExhausts(t, "few of them in the list", rep(64, 64, upToThree), as(300))
	checkFits(t, "counts above Lo", star(upToThree), as(2000), 2001)
	checkFits(t, "counts above Lo", rep(2, -1, upToThree), as(2000), 1999)
	checkFits(t, "4096 situations with counts above Lo", rep(1, -1, upToThree), as(4095), 4095)
	checkExhausts(t, "4097 situations with counts above Lo", rep(1, -1, upToThree), as(4096))
	checkFits(t, "4096 situations with counts above Lo", rep(2, -1, upToThree), as(4093), 4092)
	checkExhausts(t, "4097 situations with counts above Lo", rep(2, -1, upToThree), as(4094))
	checkFits(t, "situations that are reached twice", star(alt(a, cat(a, a), a)), as(4095), 4096)
	checkExhausts(t, "situations that are reached twice", star(alt(a, cat(a, a), a)), as(4096))
	checkFits(t, "no repetition", rep(0, 0, star(a)), as(5000), 1)
	checkExhausts(t, "a repetition that exhausts the budget", rep(0, 1, star(a)), as(4096))
}

func TestP9_1BudgetOfBeginnings(t *testing.T) {
	checkFits(t, "many beginnings", cat(star(a), star(a)), as(500), 501)
	checkFits(t, "many beginnings", star(alt(cat(a, star(a)), b)), as(300), 301)
	if list, err := rematch.Parses(star(a), as(5000), 905, false); err != api.OK || len(list) != 4096 {
		t.Errorf("4096 situations at another beginning: %d parses, %v", len(list), err)
	}
	checkErrors(t, "4097 situations at another beginning", star(a), as(5000), 904, api.ErrBudget)
	// The second repetition begins with one byte less each time, and exhausts the budget at the first beginning alone.
	checkFits(t, "the second one", cat(a, star(a)), as(4096), 4096)
	checkExhausts(t, "the second one", cat(empty, star(a)), as(4096))
	checkExhausts(t, "the second one", cat(rep(0, 1, a), star(a)), as(4096))
}

func TestP9_1BudgetOfGroups(t *testing.T) {
	checkFits(t, "a group", group(1, star(a)), as(4095), 4096)
	checkExhausts(t, "a group", group(1, star(a)), as(4096))
	checkExhausts(t, "a group within others", group(1, cat(a, group(2, alt(b, group(3, star(a)))))), as(4097))
	checkFits(t, "a reference", cat(group(1, star(a)), back(1)), as(4095), 2048)
	checkExhausts(t, "a reference", cat(group(1, star(a)), back(1)), as(4096))
}

func TestP9_3Budget(t *testing.T) {
	e := cat(star(a), b)
	checkLeftmost(t, "behind a match", e, "b"+as(5000), 0, "0-1")
	checkLeftmost(t, "behind a match", e, "ccb"+as(5000)+"b", 0, "2-3")
	checkLeftmost(t, "behind a match", e, as(4095)+"b"+as(5000), 0, "0-4096")
	checkExhausts(t, "at the match", e, as(4096)+"b")
	checkLeftmost(t, "behind the exhausting offset", e, as(4096)+"b", 1, "1-4097")
	checkExhausts(t, "before a match", e, as(4096)+"cb")
	checkLeftmost(t, "behind the exhausting offset", e, as(4096)+"cb", 4090, "4097-4098")
	for _, from := range []int{0, 1, 2} {
		if match, ok, err := rematch.Leftmost(e, "cc"+as(4096)+"cb", from, true); err != api.ErrBudget || ok || len(match.Spans) != 0 {
			t.Errorf("before a match, from %d: %v, %v, %v", from, match, ok, err)
		}
		if match, ok, err := rematch.Leftmost(e, "cc"+as(4096)+"b", from, true); err != api.ErrBudget || ok || len(match.Spans) != 0 {
			t.Errorf("at the match, from %d: %v, %v, %v", from, match, ok, err)
		}
	}
	// Each offset has its own budget.
	checkLeftmost(t, "many offsets", cat(star(a), c), strings.Repeat(as(50)+"b", 500)+"c", 0, "25500-25501")
	checkLeftmost(t, "many offsets with groups", cat(group(1, star(a)), group(2, star(a)), c), strings.Repeat(as(50)+"b", 10)+"ac", 0, "510-512 510-511 511-511")
	checkLeftmost(t, "many offsets without a match", cat(group(1, star(a)), group(2, star(a)), c), strings.Repeat(as(80)+"b", 3), 0, "")
}
