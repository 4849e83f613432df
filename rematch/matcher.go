package rematch

import (
	"strings"

	"texttools/api"
	"texttools/charset"
)

const (
	// unbounded is the Hi of a repetition without bound.
	unbounded = -1
	// maxEntries and maxRemembered are the numbers of entries and of parses beyond which a matcher forgets them.
	maxEntries    = 1 << 15
	maxRemembered = 1 << 20
)

// A place is where the parses of a node are searched: at an offset, with the spans of the groups that the node reads.
type place struct {
	node      *node
	at, spans int
}

// A matcher finds parses in a text. It remembers those of each place: repetitions within repetitions, and sequences within sequences, ask for them very often.
type matcher struct {
	text   string
	lines  bool
	tree   *node
	groups int
	ledger *ledger
	known  map[place][]parse
	// remembered is about the number of parses in known.
	remembered int
}

// forget may be called only between two searches, since the numbers of spans lose their meaning.
func (m *matcher) forget() {
	m.ledger = newLedger()
	m.forgetParses()
}

func (m *matcher) forgetParses() {
	m.known = map[place][]parse{}
	m.remembered = 0
}

// tidy bounds the memory that many searches take.
func (m *matcher) tidy() {
	if len(m.ledger.entries) > maxEntries {
		m.forget()
	}
}

func (m *matcher) remember(p place, list []parse) {
	if m.remembered > maxRemembered {
		m.forgetParses()
	}
	m.known[p] = list
	m.remembered += 1 + len(list)
}

// parses returns the sorted parses of x at the offset at with the spans of this number, or ErrBudget.
func (m *matcher) parses(x *node, at, spans int) ([]parse, api.Errno) {
	if len(x.parts) == 0 {
		return m.leaf(x, at, spans), api.OK
	}
	// The groups within x have no spans here, since each repetition forgets them; and all groups outside of x that it does not read pass through it unchanged.
	p := place{x, at, m.ledger.only(spans, x.read)}
	list, ok := m.known[p]
	if !ok {
		found, err := m.search(p)
		if err != api.OK {
			return nil, err
		}
		list = sorted(found)
		m.remember(p, list)
	}
	return m.completed(list, p.spans, spans), api.OK
}

// completed returns the parses that were found with some of the spans as they are with all of them.
func (m *matcher) completed(list []parse, some, all int) []parse {
	if some == all {
		return list
	}
	var results []parse
	for _, p := range list {
		results = append(results, parse{p.end, m.ledger.over(p.spans, all)})
	}
	return results
}

// leaf returns the parses of a node without parts: one or none.
func (m *matcher) leaf(x *node, at, spans int) []parse {
	end, ok := at, true
	switch x.Op {
	case api.ReSet:
		end, ok = at+1, at < len(m.text) && charset.Has(x.Set, m.text[at])
	case api.ReBegin:
		ok = at == 0 || m.lines && m.text[at-1] == '\n'
	case api.ReEnd:
		ok = at == len(m.text) || m.lines && m.text[at] == '\n'
	case api.ReBack:
		end, ok = m.again(m.ledger.entries[spans][x.Group-1], at)
	}
	if !ok {
		return nil
	}
	return []parse{{end, spans}}
}

// again returns where the text of the span ends if the text goes on with it at the offset at.
func (m *matcher) again(span api.Span, at int) (int, bool) {
	if span == unmatched {
		return 0, false
	}
	part := m.text[span.From:span.To]
	return at + len(part), strings.HasPrefix(m.text[at:], part)
}

// search returns the parses of a node with parts, in their order before they are sorted.
func (m *matcher) search(p place) ([]parse, api.Errno) {
	switch p.node.Op {
	case api.ReCat:
		return m.sequence(p)
	case api.ReAlt:
		return m.alternatives(p)
	case api.ReRep:
		return m.repetitions(p)
	}
	return m.group(p)
}

func (m *matcher) sequence(p place) ([]parse, api.Errno) {
	list := []parse{{p.at, p.spans}}
	for _, part := range p.node.parts {
		var next collection
		for _, before := range list {
			if err := next.add(m.parses(part, before.end, before.spans)); err != api.OK {
				return nil, err
			}
		}
		list = next.list
	}
	return list, api.OK
}

func (m *matcher) alternatives(p place) ([]parse, api.Errno) {
	var all collection
	for _, part := range p.node.parts {
		if err := all.add(m.parses(part, p.at, p.spans)); err != api.OK {
			return nil, err
		}
	}
	return all.list, api.OK
}

func (m *matcher) group(p place) ([]parse, api.Errno) {
	found, err := m.parses(p.node.parts[0], p.at, p.spans)
	var list []parse
	for _, inner := range found {
		span := api.Span{From: p.at, To: inner.end}
		list = append(list, parse{inner.end, m.ledger.with(inner.spans, p.node.Group, span)})
	}
	return list, err
}

// A situation of a repetition: so many repetitions were made, and the offset at was reached with the spans.
type situation struct{ count, at, spans int }

func (m *matcher) repetitions(p place) ([]parse, api.Errno) {
	x := p.node
	var all collection
	visited := map[situation]bool{}
	var visit func(now situation) api.Errno
	repeat := func(now situation) api.Errno {
		// Without those of the groups within x, the spans are always the ones of the beginning.
		found, err := m.parses(x.parts[0], now.at, p.spans)
		for _, next := range found {
			if next.end == now.at && now.count >= x.Lo {
				continue
			}
			if err := visit(situation{now.count + 1, next.end, next.spans}); err != api.OK {
				return err
			}
		}
		return err
	}
	visit = func(now situation) api.Errno {
		if x.Hi == unbounded {
			now.count = min(now.count, x.Lo)
		}
		if visited[now] {
			return api.OK
		}
		if len(visited) == api.MaxParses {
			return api.ErrBudget
		}
		visited[now] = true
		if x.Hi == unbounded || now.count < x.Hi {
			if err := repeat(now); err != api.OK {
				return err
			}
		}
		if now.count < x.Lo {
			return api.OK
		}
		return all.add([]parse{{now.at, now.spans}}, api.OK)
	}
	err := visit(situation{0, p.at, p.spans})
	return all.list, err
}
