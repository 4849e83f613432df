package rematch_test

import (
	"slices"
	"strings"
	"testing"

	"texttools/api"
	"texttools/rematch"
	"texttools/retree"
)

const (
	leastInt    = -1 << 63
	greatestInt = 1<<63 - 1
)

// checkErrors checks that all functions return this error, and nothing else.
func checkErrors(t *testing.T, name string, e api.Re, s string, at int, want api.Errno) {
	t.Helper()
	for _, lines := range []bool{false, true} {
		if list, err := rematch.Parses(e, s, at, lines); err != want || len(list) != 0 {
			t.Errorf("%s: Parses(%s, %.60q, %d, %v) = %.200s, %v; want %v", name, show(e), s, at, lines, showParses(list), err, want)
		}
		if match, ok, err := rematch.At(e, s, at, lines); err != want || ok || len(match.Spans) != 0 {
			t.Errorf("%s: At(%s, %.60q, %d, %v) = %v, %v, %v; want %v", name, show(e), s, at, lines, match, ok, err, want)
		}
		if match, ok, err := rematch.Leftmost(e, s, at, lines); err != want || ok || len(match.Spans) != 0 {
			t.Errorf("%s: Leftmost(%s, %.60q, %d, %v) = %v, %v, %v; want %v", name, show(e), s, at, lines, match, ok, err, want)
		}
	}
}

// notValid returns trees with each of the errors of retree.Check.
func notValid() map[api.Errno][]api.Re {
	var ten []api.Re
	for k := range 10 {
		ten = append(ten, group(k+1, a))
	}
	return map[api.Errno][]api.Re{
		api.ErrType: {
			{}, {Op: -1}, {Op: 10}, {Op: api.ReSet}, cat(), cat(a), alt(a), {Op: api.ReRep}, {Op: api.ReGroup, Group: 1}, rep(0, 1, api.Re{}), {Op: api.ReRep, Args: []api.Re{a, b}}, {Op: api.ReEmpty, Lo: 1}, {Op: api.ReBegin, Args: []api.Re{a}}, {Op: api.ReEnd, Group: 1}, {Op: api.ReCat, Hi: -1, Args: []api.Re{a, b}}, alt(a, cat(b, api.Re{Op: 99})), rep(0, 0, api.Re{Op: 99}),
		},
		api.ErrRange: {
			rep(-1, 1, a), rep(2, 1, a), rep(0, 65, a), rep(65, -1, a), rep(0, -2, a), group(0, a), group(2, a), group(-1, a), cat(group(1, a), group(1, a)), cat(group(2, a), group(1, a)), group(2, group(1, a)), group(10, a), group(leastInt, a), alt(empty, rep(1, 0, a)),
		},
		api.ErrName: {
			back(1), back(0), back(-1), cat(group(1, a), back(2)), cat(back(1), group(1, a)), group(1, back(1)), group(1, cat(a, back(1))), cat(group(1, a), back(10)), cat(group(1, a), back(64)), cat(group(1, a), back(leastInt)), cat(group(1, a), back(greatestInt)), alt(empty, back(1)),
		},
		api.ErrLimit: {
			cat(several(600, a)...), alt(several(1000, empty)...), cat(ten...), nested(32, 0, 1, a), nested(500, 0, -1, a),
		},
	}
}

func TestP9_1ErrorsOfTrees(t *testing.T) {
	checked := 0
	for want, trees := range notValid() {
		for _, e := range trees {
			if err := retree.Check(e); err != want {
				t.Fatalf("Check(%s) = %v, want %v", show(e), err, want)
			}
			checked++
			for _, s := range []string{"", "a", "aab\n"} {
				for _, at := range []int{-1, 0, len(s), len(s) + 1, leastInt, greatestInt} {
					checkErrors(t, "a tree that is not valid", e, s, at, want)
				}
			}
		}
	}
	if checked < 40 {
		t.Errorf("only %d trees were checked", checked)
	}
}

func TestP9_1ErrorsOfOffsets(t *testing.T) {
	exhausting := star(a)
	long := strings.Repeat("a", 5000)
	for _, e := range []api.Re{empty, a, begin, end, star(a), cat(a, b), re(`(a|b)*\1`), exhausting} {
		for _, s := range []string{"", "a", "\n", "abab", long} {
			for _, at := range []int{-1, -2, -1000, leastInt, len(s) + 1, len(s) + 2, len(s) + 1000, greatestInt} {
				checkErrors(t, "an offset", e, s, at, api.ErrRange)
			}
		}
	}
	checkErrors(t, "the budget", exhausting, long, 0, api.ErrBudget)
	checkErrors(t, "the budget", exhausting, long, 5000-4096, api.ErrBudget)
	for _, s := range []string{"", "a", long} {
		if list, err := rematch.Parses(empty, s, len(s), false); err != api.OK || showParses(list) == "" {
			t.Errorf("the greatest offset: %s, %v", showParses(list), err)
		}
	}
}

func TestP9_1ArgumentsAreKept(t *testing.T) {
	for _, e := range []api.Re{re(`(a|(b))*\1(c?)`), cat(group(1, rep(0, 3, alt(a, b, empty))), back(1)), alt(begin, star(end))} {
		e.Args = append(make([]api.Re, 0, 9), e.Args...)
		before := copyOf(e)
		spare := slices.Clone(e.Args[:cap(e.Args)])
		for range 2 {
			rematch.Parses(e, "abab", 0, true)
			rematch.At(e, "abab", 0, true)
			rematch.Leftmost(e, "cabab", 0, true)
		}
		if !same(e, before) || !slices.EqualFunc(e.Args[:cap(e.Args)], spare, same) {
			t.Errorf("the tree %s became %s", show(before), show(e))
		}
	}
}

func TestP9_1ResultsShareNoMemory(t *testing.T) {
	e := re("(a*)(a|(b))*")
	list, _ := rematch.Parses(e, "aab", 0, false)
	want := showParses(list)
	other, _ := rematch.Parses(e, "aab", 0, false)
	for i := range list {
		// Each list is changed and extended: none of the others may change.
		list[i].Spans = append(list[i].Spans, api.Span{From: 77, To: 77})
		for k := range list[i].Spans {
			list[i].Spans[k] = api.Span{From: 77, To: 77}
		}
		if i+1 < len(list) && showParses(list[i+1:]) != showParses(other[i+1:]) {
			t.Fatalf("a change of the parse %d changed others", i)
		}
	}
	if showParses(other) != want {
		t.Errorf("another result changed to %s", showParses(other))
	}
	one, _, _ := rematch.At(e, "aab", 0, false)
	two, _, _ := rematch.At(e, "aab", 0, false)
	clear(one.Spans)
	if strings.Join(showSpans(two.Spans), " ") != "0-3 0-2 2-3 2-3" {
		t.Errorf("another match changed to %v", two)
	}
}

// TestP9_1ManyParses has more parses at all offsets together than a search can keep in memory.
func TestP9_1ManyParses(t *testing.T) {
	list, err := rematch.Parses(cat(group(1, rep(0, 1, a)), star(a), star(a)), as(2000), 0, false)
	if err != api.OK || len(list) != 4001 {
		t.Fatalf("%d parses, %v", len(list), err)
	}
	for i, p := range list {
		want := api.Span{From: 0, To: 1 - i%2}
		if i == 4000 {
			want.To = 0
		}
		if p.End != 2000-i/2 || len(p.Spans) != 1 || p.Spans[0] != want {
			t.Fatalf("the parse %d is %v", i, p)
		}
	}
}

// TestP9_1Terminates has trees for which the definition, followed without remembering anything, would take too long.
func TestP9_1Terminates(t *testing.T) {
	behindGroups := b
	for number := api.MaxGroups; number >= 1; number-- {
		behindGroups = cat(group(number, star(a)), behindGroups)
	}
	for _, c := range []struct {
		e     api.Re
		count int
		err   api.Errno
	}{
		{nested(31, 0, -1, a), 61, api.OK},
		{cat(nested(30, 0, -1, a), b), 0, api.OK},
		{cat(nested(29, 1, -1, alt(a, empty)), b), 0, api.OK},
		{nested(31, 64, 64, empty), 1, api.OK},
		{nested(31, 64, -1, a), 0, api.OK},
		{nested(30, 0, 64, rep(64, 64, begin)), 1, api.OK},
		{cat(nested(25, 0, 2, alt(a, cat(a, a))), b), 0, api.OK},
		{cat(nested(25, 0, 64, alt(a, cat(a, a))), b), 0, api.OK},
		{behindGroups, 0, api.OK},
		{re("(a*)((a*)((a*)((a*)(a*b))))"), 0, api.OK},
		{re("(((a*)*b|a)*c|a*)*b"), 0, api.OK},
		{re("((((((((a*)*)*)*)*)*)*)*)*b"), 0, api.ErrBudget},
		{re("(a|(a|(a|(a|(a|(a|(a|(a|(a))))))))*b)*"), 61, api.OK},
	} {
		long := strings.Repeat("a", 60)
		if list, err := rematch.Parses(c.e, long, 0, false); err != c.err || len(list) != c.count {
			t.Errorf("Parses(%s) = %d parses, %v; want %d, %v", show(c.e), len(list), err, c.count, c.err)
		}
		if match, ok, err := rematch.Leftmost(c.e, long, 0, false); err != c.err || ok != (c.count > 0) {
			t.Errorf("Leftmost(%s) = %v, %v, %v", show(c.e), match, ok, err)
		}
	}
}
