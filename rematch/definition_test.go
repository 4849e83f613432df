package rematch_test

import (
	"slices"

	"texttools/api"
)

// definedSpans has the span of each group at its number.
type definedSpans [api.MaxGroups + 1]api.Span

// A definedParse is a parse, as a value that can be compared.
type definedParse struct {
	end   int
	spans definedSpans
}

type definedSituation struct {
	count, at int
	spans     definedSpans
}

// A definition finds parses by their definition, without remembering any.
type definition struct {
	s     string
	lines bool
	// exhausted is the budget of the layer, steps what is left of a budget of the tests.
	exhausted bool
	steps     int
}

// noSpans returns spans none of which has matched.
func noSpans() definedSpans {
	var spans definedSpans
	for i := range spans {
		spans[i] = api.Span{From: -1, To: -1}
	}
	return spans
}

// without returns the spans without those of the groups that lie within the tree.
func without(spans definedSpans, e api.Re) definedSpans {
	if e.Op == api.ReGroup {
		spans[e.Group] = api.Span{From: -1, To: -1}
	}
	for _, part := range e.Args {
		spans = without(spans, part)
	}
	return spans
}

// once returns the list with the first one of equal elements.
func (d *definition) once(list []definedParse) []definedParse {
	known := map[definedParse]bool{}
	var results []definedParse
	for _, p := range list {
		if !known[p] {
			known[p] = true
			results = append(results, p)
		}
	}
	d.exhausted = d.exhausted || len(results) > 4096
	return results
}

func (d *definition) sorted(list []definedParse) []definedParse {
	list = d.once(list)
	var results []definedParse
	for end := len(d.s); end >= 0; end-- {
		for _, p := range list {
			if p.end == end {
				results = append(results, p)
			}
		}
	}
	return results
}

func (d *definition) stopped() bool {
	d.steps--
	return d.exhausted || d.steps < 0
}

func (d *definition) parses(e api.Re, i int, spans definedSpans) []definedParse {
	if d.stopped() {
		return nil
	}
	var list []definedParse
	switch here := (definedParse{i, spans}); e.Op {
	case api.ReCat:
		list = d.catParses(e.Args, i, spans)
	case api.ReAlt:
		for _, part := range e.Args {
			list = append(list, d.parses(part, i, spans)...)
		}
	case api.ReRep:
		list = d.repParses(e, i, spans)
	case api.ReGroup:
		for _, p := range d.parses(e.Args[0], i, spans) {
			p.spans[e.Group] = api.Span{From: i, To: p.end}
			list = append(list, p)
		}
	default:
		if length := definedLength(e, d.s, i, d.lines, spans); length >= 0 {
			here.end += length
			list = append(list, here)
		}
	}
	return d.sorted(list)
}

// definedLength returns the length of what a node without Args matches, or -1.
func definedLength(e api.Re, s string, i int, lines bool, spans definedSpans) int {
	ok, length := false, 0
	switch e.Op {
	case api.ReEmpty:
		ok = true
	case api.ReSet:
		ok, length = i < len(s) && e.Set.Bits[s[i]/64]&(1<<(s[i]%64)) != 0, 1
	case api.ReBegin:
		ok = i == 0 || lines && s[i-1] == 10
	case api.ReEnd:
		ok = i == len(s) || lines && s[i] == 10
	case api.ReBack:
		span := spans[e.Group]
		length = span.To - span.From
		ok = span.From >= 0 && i+length <= len(s) && s[i:i+length] == s[span.From:span.To]
	}
	if !ok {
		return -1
	}
	return length
}

func (d *definition) catParses(args []api.Re, i int, spans definedSpans) []definedParse {
	list := []definedParse{{i, spans}}
	for _, part := range args {
		var next []definedParse
		for _, p := range list {
			next = append(next, d.parses(part, p.end, p.spans)...)
		}
		list = d.once(next)
	}
	return list
}

func (d *definition) repParses(e api.Re, i int, spans definedSpans) []definedParse {
	var list []definedParse
	visited := map[definedSituation]bool{}
	var visit func(count, i int, spans definedSpans)
	visit = func(count, i int, spans definedSpans) {
		if count > e.Lo && e.Hi == -1 {
			count = e.Lo
		}
		if visited[definedSituation{count, i, spans}] || d.stopped() {
			return
		}
		visited[definedSituation{count, i, spans}] = true
		d.exhausted = d.exhausted || len(visited) > 4096
		if e.Hi == -1 || count < e.Hi {
			for _, p := range d.parses(e.Args[0], i, without(spans, e)) {
				if p.end > i || count < e.Lo {
					visit(count+1, p.end, p.spans)
				}
			}
		}
		if count >= e.Lo {
			list = append(list, definedParse{i, spans})
		}
	}
	visit(0, i, spans)
	return list
}

// definedParses returns the parses of a valid tree with so many groups; false if this takes too many steps.
func definedParses(e api.Re, groups int, s string, at int, lines bool) ([]api.Parse, api.Errno, bool) {
	d := definition{s: s, lines: lines, steps: 20000}
	found := d.parses(e, at, noSpans())
	if d.steps < 0 {
		return nil, api.OK, false
	}
	if d.exhausted {
		return nil, api.ErrBudget, true
	}
	var list []api.Parse
	for _, p := range found {
		list = append(list, api.Parse{End: p.end, Spans: slices.Clone(p.spans[1 : groups+1])})
	}
	return list, api.OK, true
}

// A searcher finds the first parse that ends at a given offset without lists of parses: of each operand it tries the ends from the greatest one on, and goes on with what follows.
type searcher struct {
	s     string
	lines bool
	steps int
}

// try tries e from i to k; it returns whether next, which is called with the spans of each way in order, has returned true.
func (f *searcher) try(e api.Re, i, k int, spans definedSpans, next func(definedSpans) bool) bool {
	f.steps--
	if f.steps < 0 {
		return false
	}
	switch e.Op {
	case api.ReCat:
		return f.tryAll(e.Args, i, k, spans, next)
	case api.ReAlt:
		return slices.ContainsFunc(e.Args, func(part api.Re) bool { return f.try(part, i, k, spans, next) })
	case api.ReRep:
		return f.repeat(e, 0, i, k, spans, next)
	case api.ReGroup:
		return f.try(e.Args[0], i, k, spans, func(inner definedSpans) bool {
			inner[e.Group] = api.Span{From: i, To: k}
			return next(inner)
		})
	}
	return definedLength(e, f.s, i, f.lines, spans) == k-i && next(spans)
}

func (f *searcher) tryAll(args []api.Re, i, k int, spans definedSpans, next func(definedSpans) bool) bool {
	if len(args) == 1 {
		return f.try(args[0], i, k, spans, next)
	}
	for j := k; j >= i; j-- {
		rest := func(inner definedSpans) bool { return f.tryAll(args[1:], j, k, inner, next) }
		if f.try(args[0], i, j, spans, rest) {
			return true
		}
	}
	return false
}

func (f *searcher) repeat(e api.Re, count, i, k int, spans definedSpans, next func(definedSpans) bool) bool {
	for j := k; j >= i && (e.Hi == -1 || count < e.Hi); j-- {
		if j == i && count >= e.Lo {
			break
		}
		rest := func(inner definedSpans) bool { return f.repeat(e, count+1, j, k, inner, next) }
		if f.try(e.Args[0], i, j, without(spans, e), rest) {
			return true
		}
	}
	return i == k && count >= e.Lo && next(spans)
}

// firstParse returns the first parse of a valid tree that ends at k, or false without one; done is false if this takes too many steps.
func firstParse(e api.Re, groups int, s string, at, k int, lines bool) (first api.Parse, ok, done bool) {
	f := searcher{s: s, lines: lines, steps: 20000}
	ok = f.try(e, at, k, noSpans(), func(spans definedSpans) bool {
		first = api.Parse{End: k, Spans: slices.Clone(spans[1 : groups+1])}
		return true
	})
	return first, ok, f.steps >= 0
}
