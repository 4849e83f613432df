package recapture_test

import (
	"math/rand"
	"slices"
	"testing"

	"texttools/api"
	"texttools/recapture"
	"texttools/rematch"
	"texttools/reprog"
	"texttools/resim"
)

// A sample is a tree with a program, and a string.
type sample struct {
	e     api.Re
	s     string
	lines bool
	p     api.ReProg
}

// samples returns trees of three levels with groups, and random ones, with random strings.
func samples(seed int64) []sample {
	random := rand.New(rand.NewSource(seed))
	trees := validTrees(seed+1, 10000, 5, 3)
	for _, e := range smallTrees(3) {
		if random.Intn(3) == 0 {
			trees = append(trees, grouped(e, random.Intn(2)))
		}
	}
	var list []sample
	for _, e := range trees {
		lines := random.Intn(2) == 0
		if p, err := reprog.Compile(e, lines); err == api.OK && len(p.Insts) < 500 {
			list = append(list, sample{e, randomText(random, 7), lines, p})
		}
	}
	return list
}

func TestP13_2Parses(t *testing.T) {
	var count tally
	for _, x := range samples(1321) {
		for at := range len(x.s) + 1 {
			parses, err := rematch.Parses(x.e, x.s, at, x.lines)
			if err != api.OK {
				continue
			}
			for to := at; to <= len(x.s); to++ {
				whole := api.Span{From: at, To: to}
				got, ok, err := recapture.Captures(x.e, x.s, whole, x.lines)
				first := slices.IndexFunc(parses, func(p api.Parse) bool { return p.End == to })
				var want []api.Span
				if first >= 0 {
					want = append([]api.Span{whole}, parses[first].Spans...)
				}
				if err != api.OK || ok != (first >= 0) || !slices.Equal(got.Spans, want) {
					t.Fatalf("Captures(%s, %q, %v, %v) = %v, %v, %v; the parses are %v", show(x.e), x.s, whole, x.lines, got, ok, err, parses)
				}
				count.add(want, ok)
			}
		}
	}
	count.check(t, 10000)
}

func TestP13_2Matches(t *testing.T) {
	var count tally
	for _, x := range samples(1322) {
		for at := range len(x.s) + 1 {
			match, found, err := rematch.At(x.e, x.s, at, x.lines)
			if err != api.OK || !found {
				continue
			}
			got, ok, err := recapture.Captures(x.e, x.s, match.Spans[0], x.lines)
			if err != api.OK || !ok || !slices.Equal(got.Spans, match.Spans) {
				t.Fatalf("Captures(%s, %q, %v, %v) = %v, %v, %v; At is %v", show(x.e), x.s, match.Spans[0], x.lines, got, ok, err, match)
			}
			count.add(got.Spans, ok)
		}
	}
	if min(count.with, count.without) < 5000 {
		t.Errorf("too few cases were compared: %+v", count)
	}
}

func TestP13_3Threads(t *testing.T) {
	var count tally
	for _, x := range samples(1331) {
		for _, whole := range spansOf(x.s) {
			threads := resim.Threads(x.p, x.s, whole.From, whole.To)
			want := slices.Contains(threads, len(x.p.Insts)-1)
			got, ok, err := recapture.Captures(x.e, x.s, whole, x.lines)
			if err != api.OK || ok != want {
				t.Fatalf("Captures(%s, %q, %v, %v) = %v, %v, %v; the threads are %v of %d", show(x.e), x.s, whole, x.lines, got, ok, err, threads, len(x.p.Insts))
			}
			count.add(got.Spans, ok)
		}
	}
	count.check(t, 10000)
}

// moved returns the span with offsets that are greater by more.
func moved(span api.Span, more int) api.Span {
	if span == (api.Span{From: -1, To: -1}) {
		return span
	}
	return api.Span{From: span.From + more, To: span.To + more}
}

func TestP13_4Context(t *testing.T) {
	random := rand.New(rand.NewSource(1341))
	var count tally
	for _, x := range samples(1342) {
		if has(x.e, api.ReBegin) || has(x.e, api.ReEnd) {
			continue
		}
		before, after := randomText(random, 4), randomText(random, 4)
		for _, whole := range spansOf(x.s) {
			match, ok, err := recapture.Captures(x.e, x.s, whole, x.lines)
			var want []api.Span
			for _, span := range match.Spans {
				want = append(want, moved(span, len(before)))
			}
			for _, lines := range []bool{false, true} {
				got, gotOk, gotErr := recapture.Captures(x.e, before+x.s+after, moved(whole, len(before)), lines)
				if gotErr != err || gotOk != ok || !slices.Equal(got.Spans, want) {
					t.Fatalf("Captures(%s, %q, %v, %v) = %v, %v, %v; between %q and %q it is %v, %v, %v", show(x.e), x.s, whole, x.lines, match, ok, err, before, after, got, gotOk, gotErr)
				}
			}
			count.add(want, ok)
		}
	}
	count.check(t, 5000)
}

// TestP13_4Part has strings of which only the part within the span can be looked at.
func TestP13_4Part(t *testing.T) {
	compared := 0
	for _, x := range samples(1343) {
		if has(x.e, api.ReBegin) || has(x.e, api.ReEnd) {
			continue
		}
		for _, whole := range spansOf(x.s) {
			match, ok, _ := recapture.Captures(x.e, x.s, whole, x.lines)
			part, partOk, _ := recapture.Captures(x.e, x.s[whole.From:whole.To], moved(whole, -whole.From), x.lines)
			for k, span := range part.Spans {
				part.Spans[k] = moved(span, whole.From)
			}
			if ok != partOk || !slices.Equal(match.Spans, part.Spans) {
				t.Fatalf("Captures(%s, %q, %v) = %v, %v; for the part alone it is, moved, %v, %v", show(x.e), x.s, whole, match, ok, part, partOk)
			}
			if ok {
				compared++
			}
		}
	}
	if compared < 10000 {
		t.Errorf("only %d matches were compared", compared)
	}
}

// checkNested checks that all groups within e lie in the span outer, which e is known to lie in, or have none, if outer is none.
func checkNested(t *testing.T, e api.Re, match api.Match, outer api.Span) (nested int) {
	t.Helper()
	if e.Op == api.ReGroup {
		span := match.Spans[e.Group]
		if span != (api.Span{From: -1, To: -1}) {
			if outer.From < 0 || span.From < outer.From || span.From > span.To || span.To > outer.To {
				t.Fatalf("the group %d of %s has the span %v, which is not within %v", e.Group, show(e), span, outer)
			}
			nested++
		}
		outer = span
	}
	for _, part := range e.Args {
		nested += checkNested(t, part, match, outer)
	}
	return nested
}

func TestP13_5Nesting(t *testing.T) {
	compared := 0
	for _, x := range samples(1351) {
		for _, whole := range spansOf(x.s) {
			match, ok, _ := recapture.Captures(x.e, x.s, whole, x.lines)
			if !ok {
				continue
			}
			if match.Spans[0] != whole {
				t.Fatalf("Captures(%s, %q, %v, %v) = %v", show(x.e), x.s, whole, x.lines, match)
			}
			if checkNested(t, x.e, match, whole) > 1 {
				compared++
			}
		}
	}
	if compared < 5000 {
		t.Errorf("only %d matches have several groups", compared)
	}
}
