package retree

import (
	"texttools/api"
)

// Expand returns the tree without counted repetitions; the errors are that of Check, and ErrLimit.
func Expand(e api.Re) (api.Re, api.Errno) {
	if err := Check(e); err != api.OK {
		return api.Re{}, err
	}
	// The size is found before anything is built, since the result could have very many nodes.
	if valueOf(e, expandedSize) > api.MaxInsts {
		return api.Re{}, api.ErrLimit
	}
	return expanded(e), api.OK
}

// A sequence is what a repetition is replaced with: copies of its Arg, and then repetitions of it with the bounds lo and hi.
type sequence struct{ copies, repetitions, lo, hi int }

func sequenceOf(e api.Re) sequence {
	if e.Hi == unbounded {
		return sequence{copies: max(e.Lo-1, 0), repetitions: 1, lo: min(e.Lo, 1), hi: unbounded}
	}
	return sequence{copies: e.Lo, repetitions: e.Hi - e.Lo, lo: 0, hi: 1}
}

// expandedSize is the rule for the number of nodes of the expanded tree, where numbers beyond MaxInsts + 1 count as that.
func expandedSize(e api.Re, parts []int) int {
	size := 1
	switch e.Op {
	case api.ReBack:
		return 1
	case api.ReRep:
		s := sequenceOf(e)
		size = s.copies*parts[0] + s.repetitions*(parts[0]+1)
		if s.copies+s.repetitions != 1 {
			size++
		}
	default:
		for _, part := range parts {
			size += part
		}
	}
	return min(size, api.MaxInsts+1)
}

// expanded returns a new tree, in which no nodes share memory: each copy is expanded anew. What is repeated 0 times is not expanded, however large it would be.
func expanded(e api.Re) api.Re {
	if e.Op != api.ReRep {
		e.Args = mapped(e.Args, expanded)
		return e
	}
	s := sequenceOf(e)
	var parts []api.Re
	for range s.copies {
		parts = append(parts, expanded(e.Args[0]))
	}
	for range s.repetitions {
		parts = append(parts, api.Re{Op: api.ReRep, Lo: s.lo, Hi: s.hi, Args: []api.Re{expanded(e.Args[0])}})
	}
	switch len(parts) {
	case 0:
		return api.Re{Op: api.ReEmpty}
	case 1:
		return parts[0]
	}
	return api.Re{Op: api.ReCat, Args: parts}
}
