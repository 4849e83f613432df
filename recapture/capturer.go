package recapture

import (
	"texttools/api"
)

// unmatched is the span of a group that has not matched.
var unmatched = api.Span{From: -1, To: -1}

// A capturer finds the first parse of a tree, of which it knows where it begins and ends.
type capturer struct {
	program api.ReProg
	text    string
	// before contains for each instruction those from which steps without a byte lead to it.
	before [][]int
	// reached has for each instruction the number of the last round that has reached it.
	reached []int
	round   int
	// spans has the span of each group at its number minus 1.
	spans []api.Span
}

func newCapturer(program api.ReProg, text string, groups int) *capturer {
	count := len(program.Insts)
	c := &capturer{program: program, text: text, before: make([][]int, count), reached: make([]int, count)}
	add := func(from, to int) {
		c.before[to] = append(c.before[to], from)
	}
	for number, inst := range program.Insts {
		switch inst.Op {
		case api.InSplit:
			add(number, inst.X)
			add(number, inst.Y)
		case api.InJump:
			add(number, inst.X)
		case api.InBegin, api.InEnd:
			add(number, number+1)
		}
	}
	for range groups {
		c.spans = append(c.spans, unmatched)
	}
	return c
}

// capture finds the spans of the groups within x in its first parse, for a span that x matches. It comes only once to each group: of a repetition only the last turn counts.
func (c *capturer) capture(x *node, span api.Span) {
	if !x.captures {
		return
	}
	switch x.Op {
	case api.ReCat:
		c.sequence(x, span)
	case api.ReAlt:
		c.alternatives(x, span)
	case api.ReRep:
		c.repetitions(x, span)
	case api.ReGroup:
		c.spans[x.Group-1] = span
		c.capture(x.parts[0], span)
	}
}

func (c *capturer) sequence(x *node, span api.Span) {
	f := c.futures(x, span)
	var found []api.Span
	at := span.From
	for _, part := range x.parts {
		end := c.longest(part, at, f)
		found = append(found, api.Span{From: at, To: end})
		at = end
	}
	// The futures of x are not needed any more, and need not stay in memory together with those of the parts.
	for i, part := range x.parts {
		c.capture(part, found[i])
	}
}

func (c *capturer) alternatives(x *node, span api.Span) {
	f := c.futures(x, span)
	for _, part := range x.parts {
		if f.has(part.first, span.From) {
			c.capture(part, span)
			return
		}
	}
}

// repetitions makes turns until the end is reached. Neither Hi nor the empty turns that are not made need to be looked at: where x matches what remains and this is not empty, there is a further turn, and one that goes on.
func (c *capturer) repetitions(x *node, span api.Span) {
	f := c.futures(x, span)
	var last *node
	turn := api.Span{From: span.From, To: span.From}
	for count := 0; count < x.Lo || turn.To < span.To; count++ {
		last = x.parts[min(count, len(x.parts)-1)]
		turn = api.Span{From: turn.To, To: c.longest(last, turn.To, f)}
	}
	if last != nil {
		c.capture(last, turn)
	}
}

// longest returns the greatest end of a match of the part from the offset at on after which its parent can go on, where there is such an end. It goes only through futures, so that no step fails, and that none leads beyond the end that is found.
func (c *capturer) longest(part *node, at int, f *futures) int {
	end := at
	var threads, earlier []int
	var reach func(number int)
	reach = func(number int) {
		if c.reached[number] == c.round || !f.has(number, at) {
			return
		}
		c.reached[number] = c.round
		if number == part.next {
			end = at
			return
		}
		switch inst := &c.program.Insts[number]; inst.Op {
		case api.InSet:
			threads = append(threads, number)
		case api.InSplit:
			reach(inst.X)
			reach(inst.Y)
		case api.InJump:
			reach(inst.X)
		default:
			reach(number + 1)
		}
	}
	c.round++
	reach(part.first)
	for len(threads) > 0 {
		c.round++
		at++
		threads, earlier = earlier[:0], threads
		for _, number := range earlier {
			reach(number + 1)
		}
	}
	return end
}
