package reprog

import (
	"texttools/api"
)

// unbounded is the Hi of a repetition without bound.
const unbounded = -1

// A writer writes instructions one after the other.
type writer struct{ insts []api.ReInst }

// codeOf returns the code of a tree without counted repetitions and back references, followed by an InMatch.
func codeOf(e api.Re) []api.ReInst {
	var w writer
	w.tree(e)
	w.add(api.ReInst{Op: api.InMatch})
	return w.insts
}

// next returns the number of the instruction that is written next.
func (w *writer) next() int {
	return len(w.insts)
}

// add writes an instruction, and returns its number.
func (w *writer) add(inst api.ReInst) int {
	w.insts = append(w.insts, inst)
	return len(w.insts) - 1
}

func (w *writer) tree(e api.Re) {
	switch e.Op {
	case api.ReSet:
		w.add(api.ReInst{Op: api.InSet, Set: e.Set})
	case api.ReBegin:
		w.add(api.ReInst{Op: api.InBegin})
	case api.ReEnd:
		w.add(api.ReInst{Op: api.InEnd})
	case api.ReCat, api.ReGroup:
		for _, part := range e.Args {
			w.tree(part)
		}
	case api.ReAlt:
		w.alternatives(e.Args)
	case api.ReRep:
		w.repetition(e)
	}
}

func (w *writer) alternatives(parts []api.Re) {
	last := len(parts) - 1
	var jumps []int
	for _, part := range parts[:last] {
		split := w.add(api.ReInst{Op: api.InSplit})
		w.tree(part)
		jumps = append(jumps, w.add(api.ReInst{Op: api.InJump}))
		w.complete(split)
	}
	w.tree(parts[last])
	for _, jump := range jumps {
		w.insts[jump].X = w.next()
	}
}

// repetition writes the code of one of the three repetitions that retree.Expand leaves.
func (w *writer) repetition(e api.Re) {
	first := w.next()
	if e.Lo == 1 {
		w.tree(e.Args[0])
		w.add(api.ReInst{Op: api.InSplit, X: first, Y: w.next() + 1})
		return
	}
	split := w.add(api.ReInst{Op: api.InSplit})
	w.tree(e.Args[0])
	if e.Hi == unbounded {
		w.add(api.ReInst{Op: api.InJump, X: split})
	}
	w.complete(split)
}

// complete gives an InSplit its targets: the code after it, and what is written after that code.
func (w *writer) complete(split int) {
	w.insts[split].X, w.insts[split].Y = split+1, w.next()
}
