package resim

import (
	"slices"

	"texttools/api"
	"texttools/charset"
	"texttools/reprog"
)

// A thread is the number of an instruction at the offset that a simulation has reached, and the offset from which it came there.
type thread struct{ number, from int }

const wordBits = 64

// marks has a bit for each instruction.
type marks [api.MaxInsts / wordBits]uint64

// add marks an instruction, and returns false if it was marked before.
func (all *marks) add(number int) bool {
	word, bit := &all[number/wordBits], uint64(1)<<(number%wordBits)
	if *word&bit != 0 {
		return false
	}
	*word |= bit
	return true
}

// A simulation follows the threads of a valid program through a text.
type simulation struct {
	program api.ReProg
	text    string
	at      int
	// threads are the instructions InSet and InMatch that were reached at the offset at. Of all ways to an instruction only the one that came from the least offset counts, and the threads are in the ascending order of these offsets.
	threads []thread
	// marked are all instructions that were reached at the offset at.
	marked marks
	// spare is memory for the threads of the next offset.
	spare []thread
}

// newSimulation returns a simulation without threads at the offset at, or false if the program is not valid or s has no such offset.
func newSimulation(p api.ReProg, s string, at int) (*simulation, bool) {
	if at < 0 || at > len(s) || !reprog.Valid(p) {
		return nil, false
	}
	return &simulation{program: p, text: s, at: at}, true
}

// begin adds the threads that come from the offset at.
func (m *simulation) begin() {
	m.reach(0, m.at)
}

// reach adds the instruction with this number, and all those to which steps without a byte lead from it. It is called with ascending offsets from.
func (m *simulation) reach(number, from int) {
	if !m.marked.add(number) {
		return
	}
	inst := &m.program.Insts[number]
	switch inst.Op {
	case api.InSplit:
		m.reach(inst.X, from)
		m.reach(inst.Y, from)
	case api.InJump:
		m.reach(inst.X, from)
	case api.InBegin:
		if m.atBegin() {
			m.reach(number+1, from)
		}
	case api.InEnd:
		if m.atEnd() {
			m.reach(number+1, from)
		}
	default:
		m.threads = append(m.threads, thread{number, from})
	}
}

func (m *simulation) atBegin() bool {
	return m.at == 0 || m.program.Lines && m.text[m.at-1] == '\n'
}

func (m *simulation) atEnd() bool {
	return m.at == len(m.text) || m.program.Lines && m.text[m.at] == '\n'
}

// advance takes the steps with the byte at the offset at, or returns false if the text ends there.
func (m *simulation) advance() bool {
	if m.at == len(m.text) {
		return false
	}
	c := m.text[m.at]
	m.at++
	m.marked = marks{}
	m.threads, m.spare = m.spare[:0], m.threads
	for _, t := range m.spare {
		inst := &m.program.Insts[t.number]
		if inst.Op == api.InSet && charset.Has(inst.Set, c) {
			m.reach(t.number+1, t.from)
		}
	}
	return true
}

// ends reports whether a match ends with the thread.
func (m *simulation) ends(t thread) bool {
	return m.program.Insts[t.number].Op == api.InMatch
}

// longest follows the threads as far as they lead, and returns the longest of the leftmost matches, or false if there is none.
func (m *simulation) longest() (api.Span, bool) {
	var match api.Span
	found := false
	for len(m.threads) > 0 {
		if first := slices.IndexFunc(m.threads, m.ends); first >= 0 {
			match, found = api.Span{From: m.threads[first].from, To: m.at}, true
			m.keep(match.From)
		}
		if !m.advance() {
			break
		}
	}
	return match, found
}

// keep removes the threads that come from greater offsets than this one.
func (m *simulation) keep(from int) {
	count := len(m.threads)
	for m.threads[count-1].from > from {
		count--
	}
	m.threads = m.threads[:count]
}
