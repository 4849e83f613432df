package recapture

import (
	"texttools/api"
	"texttools/charset"
)

const wordBits = 64

// Futures say, for the code of a node and a span, from which of its instructions and at which offsets the end of the code can be reached at the end of the span.
type futures struct {
	first, from int
	// words are the words of each offset, in which each instruction, and the end of the code, has a bit.
	words int
	bits  []uint64
}

func newFutures(x *node, span api.Span) *futures {
	words := (x.next-x.first)/wordBits + 1
	return &futures{first: x.first, from: span.From, words: words, bits: make([]uint64, words*(span.To-span.From+1))}
}

func (f *futures) has(number, at int) bool {
	number -= f.first
	return f.bits[(at-f.from)*f.words+number/wordBits]>>(number%wordBits)&1 == 1
}

// add returns false if the instruction was there before.
func (f *futures) add(number, at int) bool {
	number -= f.first
	word, bit := &f.bits[(at-f.from)*f.words+number/wordBits], uint64(1)<<(number%wordBits)
	if *word&bit != 0 {
		return false
	}
	*word |= bit
	return true
}

// futures goes backwards from the end of the code and of the span.
func (c *capturer) futures(x *node, span api.Span) *futures {
	f := newFutures(x, span)
	at := span.To
	f.add(x.next, at)
	found := []int{x.next}
	add := func(number int) {
		if x.first <= number && number < x.next && c.goesOn(number, at) && f.add(number, at) {
			found = append(found, number)
		}
	}
	addSteps := func() {
		for i := 0; i < len(found); i++ {
			for _, number := range c.before[found[i]] {
				add(number)
			}
		}
	}
	addSteps()
	var later []int
	for at > span.From {
		at--
		found, later = later[:0], found
		for _, number := range later {
			if number > x.first && c.program.Insts[number-1].Op == api.InSet {
				add(number - 1)
			}
		}
		addSteps()
	}
	return f
}

// goesOn reports whether any step leads on from the instruction at the offset at.
func (c *capturer) goesOn(number, at int) bool {
	switch inst := &c.program.Insts[number]; inst.Op {
	case api.InSet:
		return at < len(c.text) && charset.Has(inst.Set, c.text[at])
	case api.InBegin:
		return at == 0 || c.program.Lines && c.text[at-1] == '\n'
	case api.InEnd:
		return at == len(c.text) || c.program.Lines && c.text[at] == '\n'
	}
	return true
}
