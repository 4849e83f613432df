package recapture_test

import (
	"math/rand"
	"slices"
	"testing"

	"texttools/api"
	"texttools/recapture"
	"texttools/reprog"
	"texttools/retree"
)

// A question is whether a node can match from i to j; where it has several parts, after count of them.
type question struct {
	e           *api.Re
	count, i, j int
}

// A definition follows the chapter: it answers questions, and finds first parses by their form.
type definition struct {
	s     string
	lines bool
	known map[question]bool
	spans []api.Span
}

func (d *definition) can(e *api.Re, i, j int) bool {
	return d.canFrom(e, 0, i, j)
}

// canFrom answers the question for a ReCat or a ReRep of which so many parts or repetitions lie before i; for other nodes count is 0.
func (d *definition) canFrom(e *api.Re, count, i, j int) bool {
	if e.Op == api.ReRep && e.Hi == -1 {
		count = min(count, e.Lo)
	}
	q := question{e, count, i, j}
	answer, ok := d.known[q]
	if !ok {
		answer = d.answer(q)
		d.known[q] = answer
	}
	return answer
}

func (d *definition) answer(q question) bool {
	s, i, j := d.s, q.i, q.j
	switch q.e.Op {
	case api.ReSet:
		return j == i+1 && q.e.Set.Bits[s[i]/64]&(1<<(s[i]%64)) != 0
	case api.ReBegin:
		return i == j && (i == 0 || d.lines && s[i-1] == 10)
	case api.ReEnd:
		return i == j && (i == len(s) || d.lines && s[i] == 10)
	case api.ReGroup:
		return d.can(&q.e.Args[0], i, j)
	case api.ReAlt:
		for n := range q.e.Args {
			if d.can(&q.e.Args[n], i, j) {
				return true
			}
		}
		return false
	case api.ReCat:
		if q.count == len(q.e.Args) {
			return i == j
		}
		return d.greatest(&q.e.Args[q.count], q.e, q.count, i, j, i) >= 0
	case api.ReRep:
		return i == j && q.count >= q.e.Lo || d.greatestTurn(q.e, q.count, i, j) >= 0
	}
	return i == j
}

// greatest returns the greatest k from least on for which part can match from i to k, and what follows count + 1 parts of e from k to j; or -1.
func (d *definition) greatest(part, e *api.Re, count, i, j, least int) int {
	for k := j; k >= least; k-- {
		if d.can(part, i, k) && d.canFrom(e, count+1, k, j) {
			return k
		}
	}
	return -1
}

// greatestTurn returns where a further repetition after count others ends, or -1 if there is none.
func (d *definition) greatestTurn(e *api.Re, count, i, j int) int {
	if e.Hi != -1 && count >= e.Hi {
		return -1
	}
	least := i
	if count >= e.Lo {
		least = i + 1
	}
	return d.greatest(&e.Args[0], e, count, i, j, least)
}

// forget removes the spans of all groups within the tree.
func (d *definition) forget(e *api.Re) {
	if e.Op == api.ReGroup {
		d.spans[e.Group] = api.Span{From: -1, To: -1}
	}
	for n := range e.Args {
		d.forget(&e.Args[n])
	}
}

// first changes the spans to those of the first parse from i to j, which the tree can match.
func (d *definition) first(e *api.Re, i, j int) {
	switch e.Op {
	case api.ReGroup:
		d.first(&e.Args[0], i, j)
		d.spans[e.Group] = api.Span{From: i, To: j}
	case api.ReAlt:
		n := 0
		for !d.can(&e.Args[n], i, j) {
			n++
		}
		d.first(&e.Args[n], i, j)
	case api.ReCat:
		for n := range e.Args {
			k := d.greatest(&e.Args[n], e, n, i, j, i)
			d.first(&e.Args[n], i, k)
			i = k
		}
	case api.ReRep:
		for count := 0; ; count++ {
			k := d.greatestTurn(e, count, i, j)
			if k < 0 {
				return
			}
			d.forget(e)
			d.first(&e.Args[0], i, k)
			i = k
		}
	}
}

// definedCaptures returns what Captures must return for a tree that has a program, and a span of s.
func definedCaptures(e api.Re, s string, whole api.Span, lines bool) ([]api.Span, bool) {
	d := definition{s: s, lines: lines, known: map[question]bool{}}
	if !d.can(&e, whole.From, whole.To) {
		return nil, false
	}
	d.spans = slices.Repeat([]api.Span{{From: -1, To: -1}}, retree.Groups(e)+1)
	d.spans[0] = whole
	d.first(&e, whole.From, whole.To)
	return d.spans, true
}

// A tally counts what was compared: cases without a match, and matches, of which some have groups with spans, or without.
type tally struct{ none, matches, with, without int }

func (count *tally) add(spans []api.Span, ok bool) {
	if !ok {
		count.none++
		return
	}
	count.matches++
	missing := 0
	for _, span := range spans[1:] {
		if span == (api.Span{From: -1, To: -1}) {
			missing++
		}
	}
	if missing > 0 {
		count.without++
	}
	if missing < len(spans)-1 {
		count.with++
	}
}

func (count *tally) check(t *testing.T, least int) {
	t.Helper()
	if min(count.none, count.matches, count.with, count.without) < least {
		t.Errorf("too few cases were compared: %+v", *count)
	}
}

// checkDefined compares Captures with the definition.
func checkDefined(t *testing.T, e api.Re, s string, whole api.Span, lines bool, count *tally) {
	t.Helper()
	want, wantOk := definedCaptures(e, s, whole, lines)
	got, ok, err := recapture.Captures(e, s, whole, lines)
	if err != api.OK || ok != wantOk || !slices.Equal(got.Spans, want) {
		t.Fatalf("Captures(%s, %q, %v, %v) = %v, %v, %v; want %v, %v", show(e), s, whole, lines, got, ok, err, want, wantOk)
	}
	count.add(want, ok)
}

// TestP13_1SmallTrees has all trees of two levels with a group around each node.
func TestP13_1SmallTrees(t *testing.T) {
	var count tally
	for _, e := range smallTrees(2) {
		for _, lines := range []bool{false, true} {
			for _, s := range textsUpTo(3, "ab\n") {
				for _, whole := range spansOf(s) {
					checkDefined(t, grouped(e, 0), s, whole, lines, &count)
				}
			}
		}
	}
	count.check(t, 3000)
}

// TestP13_1HigherTrees has trees of three levels with groups around nodes, and random spans of random strings.
func TestP13_1HigherTrees(t *testing.T) {
	random := rand.New(rand.NewSource(1311))
	var count tally
	for _, e := range smallTrees(3) {
		for range 3 {
			s := randomText(random, 5)
			spans := spansOf(s)
			checkDefined(t, grouped(e, random.Intn(3)), s, spans[random.Intn(len(spans))], random.Intn(2) == 0, &count)
			checkDefined(t, grouped(e, random.Intn(3)), s, api.Span{From: 0, To: len(s)}, random.Intn(2) == 0, &count)
		}
	}
	count.check(t, 5000)
}

func TestP13_1RandomTrees(t *testing.T) {
	random := rand.New(rand.NewSource(1312))
	var count tally
	for _, e := range validTrees(1313, 12000, 6, 4) {
		lines := random.Intn(2) == 0
		if p, err := reprog.Compile(e, lines); err != api.OK || len(p.Insts) > 400 {
			continue
		}
		s := randomText(random, 9)
		for _, whole := range spansOf(s) {
			if random.Intn(4) == 0 || whole.To == len(s) {
				checkDefined(t, e, s, whole, lines, &count)
			}
		}
	}
	count.check(t, 10000)
}

// TestP13_1LongerTexts has strings with far more parses than layer 9 can list.
func TestP13_1LongerTexts(t *testing.T) {
	random := rand.New(rand.NewSource(1314))
	var count tally
	for _, e := range validTrees(1315, 1500, 5, 5) {
		lines := random.Intn(2) == 0
		if p, err := reprog.Compile(e, lines); err != api.OK || len(p.Insts) > 300 {
			continue
		}
		e = star(alt(e, cat(set("ab\nc"), optional(b))))
		s := randomText(random, 40) + "abab"
		checkDefined(t, e, s, api.Span{From: random.Intn(3), To: len(s) - random.Intn(3)}, lines, &count)
	}
	if min(count.with, count.without) < 300 {
		t.Errorf("too few cases were compared: %+v", count)
	}
}

// TestP13_1ManyInstructions has programs with several words of instructions, up to the greatest ones.
func TestP13_1ManyInstructions(t *testing.T) {
	random := rand.New(rand.NewSource(1316))
	var count tally
	greatest := 0
	for _, e := range validTrees(1317, 6000, 4, 64) {
		p, err := reprog.Compile(e, false)
		if err != api.OK || len(p.Insts) < 65 {
			continue
		}
		greatest = max(greatest, len(p.Insts))
		s := randomText(random, 12)
		checkDefined(t, e, s, api.Span{From: 0, To: len(s)}, false, &count)
		checkDefined(t, e, s, api.Span{From: len(s) / 2, To: len(s) / 2}, false, &count)
	}
	count.check(t, 100)
	if greatest < 1000 {
		t.Errorf("the greatest program has only %d instructions", greatest)
	}
}
