package rematch_test

import (
	"math/rand"
	"slices"
	"testing"

	"texttools/api"
	"texttools/rematch"
	"texttools/retree"
)

// A matching is a tree with a string, an offset and a choice of lines, at which there is no error.
type matching struct {
	e     api.Re
	s     string
	at    int
	lines bool
	list  []api.Parse
}

// matchings returns what the trees match at random offsets of random strings.
func matchings(seed int64, trees []api.Re) []matching {
	random := rand.New(rand.NewSource(seed))
	var results []matching
	for _, e := range trees {
		for range 4 {
			s, lines := randomString(random, 7), random.Intn(2) == 0
			at := random.Intn(len(s) + 1)
			if list, err := rematch.Parses(e, s, at, lines); err == api.OK {
				results = append(results, matching{e, s, at, lines, list})
			}
		}
	}
	return results
}

// plainTrees returns valid trees without groups and references.
func plainTrees(seed int64, count, depth int) []api.Re {
	random := rand.New(rand.NewSource(seed))
	var list []api.Re
	for range count {
		// A grower that counts nine groups makes no further ones.
		g := grower{Rand: random, groups: api.MaxGroups}
		list = append(list, g.grow(1+random.Intn(depth)))
	}
	return list
}

// endsOf returns the ends of the parses of a tree, each once, in ascending order.
func endsOf(t *testing.T, e api.Re, s string, at int, lines bool) []int {
	t.Helper()
	list, err := rematch.Parses(e, s, at, lines)
	if err != api.OK {
		t.Fatalf("Parses(%s, %q, %d, %v) = %v", show(e), s, at, lines, err)
	}
	var ends []int
	for _, p := range list {
		ends = append(ends, p.End)
	}
	return ascending(ends)
}

func ascending(list []int) []int {
	slices.Sort(list)
	return slices.Compact(list)
}

func TestP9_4Longest(t *testing.T) {
	compared := 0
	for _, m := range matchings(941, validTrees(942, 5000, 4)) {
		greatest, done := -1, true
		for k := m.at; k <= len(m.s); k++ {
			_, ok, inTime := firstParse(m.e, retree.Groups(m.e), m.s, m.at, k, m.lines)
			if ok {
				greatest = k
			}
			done = done && inTime
		}
		if !done {
			continue
		}
		match, ok, err := rematch.At(m.e, m.s, m.at, m.lines)
		if err != api.OK || ok != (greatest >= 0) || ok && match.Spans[0] != (api.Span{From: m.at, To: greatest}) {
			t.Fatalf("At(%s, %q, %d, %v) = %v, %v, %v; the greatest end is %d", show(m.e), m.s, m.at, m.lines, match, ok, err, greatest)
		}
		if ok {
			compared++
		}
	}
	if compared < 5000 {
		t.Errorf("only %d matches were compared", compared)
	}
}

func TestP9_4Leftmost(t *testing.T) {
	for _, m := range matchings(943, validTrees(944, 3000, 4)) {
		exists := false
		for at := m.at; at <= len(m.s); at++ {
			list, err := rematch.Parses(m.e, m.s, at, m.lines)
			if err != api.OK {
				break
			}
			exists = exists || len(list) > 0
		}
		if match, ok, err := rematch.Leftmost(m.e, m.s, m.at, m.lines); err != api.OK || ok != exists {
			t.Fatalf("Leftmost(%s, %q, %d, %v) = %v, %v, %v; there is a match: %v", show(m.e), m.s, m.at, m.lines, match, ok, err, exists)
		}
	}
}

func TestP9_5Order(t *testing.T) {
	several, spans := 0, 0
	for _, m := range matchings(951, validTrees(952, 10000, 5)) {
		known := map[string]bool{}
		for i, p := range m.list {
			if i > 0 && m.list[i-1].End < p.End {
				t.Fatalf("the ends of Parses(%s, %q, %d, %v) = %s ascend", show(m.e), m.s, m.at, m.lines, showParses(m.list))
			}
			text := showParses([]api.Parse{p})
			if known[text] {
				t.Fatalf("Parses(%s, %q, %d, %v) = %s has %s twice", show(m.e), m.s, m.at, m.lines, showParses(m.list), text)
			}
			known[text] = true
			if len(p.Spans) != retree.Groups(m.e) || p.End < m.at || p.End > len(m.s) {
				t.Fatalf("Parses(%s, %q, %d, %v) = %s", show(m.e), m.s, m.at, m.lines, showParses(m.list))
			}
			for _, span := range p.Spans {
				if span == (api.Span{From: -1, To: -1}) {
					continue
				}
				spans++
				if span.From < m.at || span.From > span.To || span.To > p.End {
					t.Fatalf("Parses(%s, %q, %d, %v) = %s has the span %v", show(m.e), m.s, m.at, m.lines, showParses(m.list), span)
				}
			}
		}
		if len(m.list) > 2 {
			several++
		}
	}
	if several < 2000 || spans < 10000 {
		t.Errorf("only %d lists have several parses, with %d spans", several, spans)
	}
}

func TestP9_6Composition(t *testing.T) {
	random := rand.New(rand.NewSource(961))
	trees := plainTrees(962, 3000, 3)
	found := 0
	for range 20000 {
		var parts []api.Re
		for range 2 + random.Intn(2) {
			parts = append(parts, trees[random.Intn(len(trees))])
		}
		s, lines := randomString(random, 7), random.Intn(2) == 0
		at := random.Intn(len(s) + 1)
		var union []int
		reached := []int{at}
		for _, part := range parts {
			union = append(union, endsOf(t, part, s, at, lines)...)
			var next []int
			for _, k := range reached {
				next = append(next, endsOf(t, part, s, k, lines)...)
			}
			reached = ascending(next)
		}
		if got := endsOf(t, alt(parts...), s, at, lines); !slices.Equal(got, ascending(union)) {
			t.Fatalf("the ends of %s in %q at %d, lines %v, are %v; those of its Args %v", show(alt(parts...)), s, at, lines, got, union)
		}
		if got := endsOf(t, cat(parts...), s, at, lines); !slices.Equal(got, reached) {
			t.Fatalf("the ends of %s in %q at %d, lines %v, are %v; its Args reach %v", show(cat(parts...)), s, at, lines, got, reached)
		}
		if len(reached) > 1 {
			found++
		}
	}
	if found < 1000 {
		t.Errorf("only %d sequences have several ends", found)
	}
}

func TestP9_7Shifts(t *testing.T) {
	random := rand.New(rand.NewSource(971))
	compared, references := 0, 0
	for _, e := range validTrees(972, 15000, 4) {
		if has(e, api.ReBegin) {
			continue
		}
		s, before, other := randomString(random, 7), randomString(random, 4), randomString(random, 4)
		for _, cut := range []int{0, random.Intn(len(s) + 1)} {
			rest := s[cut:]
			first, err1 := rematch.Parses(e, before+rest, len(before), false)
			second, err2 := rematch.Parses(e, other+rest, len(other), false)
			if moved := movedBy(first, len(other)-len(before)); err1 != err2 || showParses(moved) != showParses(second) {
				t.Fatalf("the parses of %s in %q are %s, %v behind %q, and %s, %v behind %q", show(e), rest, showParses(first), err1, before, showParses(second), err2, other)
			}
			if len(first) > 1 && before != other {
				compared++
				if has(e, api.ReBack) {
					references++
				}
			}
		}
	}
	if compared < 3000 || references < 300 {
		t.Errorf("only %d lists were compared, %d of them with references", compared, references)
	}
}

// movedBy returns the parses with offsets that are greater by more.
func movedBy(list []api.Parse, more int) []api.Parse {
	var results []api.Parse
	for _, p := range list {
		moved := api.Parse{End: p.End + more}
		for _, span := range p.Spans {
			if span.From >= 0 {
				span = api.Span{From: span.From + more, To: span.To + more}
			}
			moved.Spans = append(moved.Spans, span)
		}
		results = append(results, moved)
	}
	return results
}

func TestP9_8Doubling(t *testing.T) {
	random := rand.New(rand.NewSource(981))
	doubled, notEmpty := 0, 0
	for _, e := range validTrees(982, 8000, 4) {
		if retree.Groups(e) == api.MaxGroups {
			continue
		}
		once := group(1, renumbered(e, 1))
		twice := cat(once, back(1))
		half := randomString(random, 4)
		s, at := "b"+half+half+randomString(random, 2), 1
		single, err1 := rematch.Parses(once, s, at, false)
		double, err2 := rematch.Parses(twice, s, at, false)
		if err1 != api.OK || err2 != api.OK {
			continue
		}
		count := 0
		for _, p := range single {
			if end := 2*p.End - at; end <= len(s) && s[at:p.End] == s[p.End:end] {
				count++
			}
		}
		if len(double) != count {
			t.Fatalf("%s has %d parses in %q, want %d", show(twice), len(double), s, count)
		}
		for _, p := range double {
			span := p.Spans[0]
			if span.From != at || s[at:span.To] != s[span.To:p.End] {
				t.Fatalf("%s has the parse %s in %q", show(twice), showParses([]api.Parse{p}), s)
			}
			doubled++
			if span.To > at {
				notEmpty++
			}
		}
	}
	if doubled < 5000 || notEmpty < 1000 {
		t.Errorf("only %d parses are doubled, %d of them not empty", doubled, notEmpty)
	}
}
