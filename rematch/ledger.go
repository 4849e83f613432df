package rematch

import (
	"texttools/api"
)

// none is the number of the spans none of which has matched.
const none = 0

// unmatched is the span of a group that has not matched.
var unmatched = api.Span{From: -1, To: -1}

// An entry has the span of each group at its number minus 1.
type entry [api.MaxGroups]api.Span

// A ledger numbers the spans of all groups, equal ones with the same number: so parses are small, and are compared at once.
type ledger struct {
	entries []entry
	numbers map[entry]int
}

func newLedger() *ledger {
	var spans entry
	for i := range spans {
		spans[i] = unmatched
	}
	return &ledger{entries: []entry{spans}, numbers: map[entry]int{spans: none}}
}

func (l *ledger) number(spans entry) int {
	number, ok := l.numbers[spans]
	if !ok {
		number = len(l.entries)
		l.entries = append(l.entries, spans)
		l.numbers[spans] = number
	}
	return number
}

// with returns the number of the spans in which the group has this span.
func (l *ledger) with(number, group int, span api.Span) int {
	spans := l.entries[number]
	spans[group-1] = span
	return l.number(spans)
}

// only returns the number of the spans in which all but these groups have not matched.
func (l *ledger) only(number int, groups groupSet) int {
	if number == none || groups == 0 {
		return none
	}
	spans := l.entries[number]
	for i := range spans {
		if !groups.has(i + 1) {
			spans[i] = unmatched
		}
	}
	return l.number(spans)
}

// over returns the number of the spans upper, with those of lower for the groups that have not matched in upper.
func (l *ledger) over(upper, lower int) int {
	if upper == none {
		return lower
	}
	spans := l.entries[upper]
	for i, span := range l.entries[lower] {
		if spans[i] == unmatched {
			spans[i] = span
		}
	}
	return l.number(spans)
}
