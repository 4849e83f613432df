package retext_test

import (
	"strings"

	"texttools/api"
	"texttools/locale"
)

// A brackets is the part of a machine that reads one bracket.
type brackets struct {
	*machine
	from     int
	inverted bool
	in       [256]bool
	// end is an end that may be the first one of a range, and endAt its offset; without one, end is -1.
	end, endAt int
}

func (m *machine) startBracket() state {
	b := &brackets{machine: m, from: m.at, end: -1}
	return func(c int) state {
		if c == '^' {
			b.inverted = true
			return b.first
		}
		return b.first(c)
	}
}

// first is the state where a ] is an end.
func (b *brackets) first(c int) state {
	if c == ']' {
		return b.ended(c, b.at)
	}
	return b.inside(c)
}

// ended is called when an end that is no second end of a range has been read.
func (b *brackets) ended(c, at int) state {
	b.in[c] = true
	b.end, b.endAt = c, at
	return b.inside
}

// inside is the state after an item, or after an end that may begin a range.
func (b *brackets) inside(c int) state {
	switch {
	case c == -1:
		return nil
	case c == ']':
		return b.finish()
	case c == '[':
		return b.opened(b.ended, false)
	case c == '-' && b.end != -1:
		return b.dash
	}
	return b.ended(c, b.at)
}

// dash is the state after a - that follows an end.
func (b *brackets) dash(c int) state {
	switch c {
	case -1:
		return nil
	case ']':
		b.in['-'] = true
		return b.finish()
	case '[':
		return b.opened(b.ranged, true)
	}
	return b.ranged(c, b.at)
}

// ranged is called when the second end of a range has been read.
func (b *brackets) ranged(c, _ int) state {
	lo, hi := b.l.Weights[b.end], b.l.Weights[c]
	if lo > hi {
		b.fail(api.ErrRange, b.endAt)
	}
	b.add(func(c byte) bool { return lo <= b.l.Weights[c] && b.l.Weights[c] <= hi })
	return b.inside
}

// add adds what is no end of a range.
func (b *brackets) add(is func(c byte) bool) {
	for c := range b.in {
		b.in[c] = b.in[c] || is(byte(c))
	}
	b.end = -1
}

// opened returns the state after a [, which is an end or begins one; or another item, unless it is in the place of the second end of a range.
func (b *brackets) opened(done func(c, at int) state, isSecond bool) state {
	from := b.at
	return func(c int) state {
		switch {
		case c == '.':
			return b.enclosed('.', func(c int) state { return done(c, from) })
		case c == -1 || isSecond && (c == ':' || c == '='):
			return nil
		case c == '=':
			return b.enclosed('=', func(c int) state {
				b.add(func(d byte) bool { return b.l.Weights[d] == b.l.Weights[c] })
				return b.inside
			})
		case c == ':':
			return b.class(from)
		}
		// The [ has ended before this byte, to which an error of its range belongs.
		if next := done('[', from); b.failure.err != api.OK {
			return next
		}
		return b.inside(c)
	}
}

// enclosed returns the state before a byte that is followed by the mark and a ].
func (b *brackets) enclosed(mark int, done func(c int) state) state {
	return func(c int) state {
		if c == -1 {
			return nil
		}
		return func(second int) state {
			if second != mark {
				return nil
			}
			return func(third int) state {
				if third != ']' {
					return nil
				}
				return done(c)
			}
		}
	}
}

// class returns the state before the name of a class, whose [ is at the offset from.
func (b *brackets) class(from int) state {
	var name []byte
	var inside state
	inside = func(c int) state {
		if c == -1 {
			return nil
		}
		name = append(name, byte(c))
		text, ended := strings.CutSuffix(string(name), ":]")
		if !ended {
			return inside
		}
		class, ok := locale.Class(b.l, text)
		if !ok {
			b.fail(api.ErrName, from)
		}
		b.add(func(c byte) bool { return class.Bits[c/64]>>(c%64)&1 == 1 })
		return b.inside
	}
	return inside
}

// finish is called at the closing ].
func (b *brackets) finish() state {
	is := b.folded(func(c byte) bool { return b.in[c] })
	e := b.setOf(func(c byte) bool {
		return is(c) != b.inverted && !(b.inverted && c == '\n' && b.flags&lines != 0)
	})
	if e.Set == (api.Charset{}) {
		b.fail(api.ErrRange, b.from)
	}
	return b.piece(e, true)
}

// A place is a node of a tree with its level and the groups that it lies in.
type place struct {
	e      api.Re
	level  int
	within []int
}

// places returns the nodes of a tree in preorder, but no more levels than MaxDepth + 1.
func places(e api.Re, level int, within []int) []place {
	list := []place{{e, level, within}}
	if level > api.MaxDepth {
		return list
	}
	if e.Op == api.ReGroup {
		within = append(append([]int{}, within...), e.Group)
	}
	for _, part := range e.Args {
		list = append(list, places(part, level+1, within)...)
	}
	return list
}

// isNormal reports whether each sentence about normal trees holds.
func isNormal(e api.Re) bool {
	groups := 0
	for _, p := range places(e, 1, nil) {
		if p.e.Op == api.ReGroup {
			groups++
			if p.e.Group != groups || groups > api.MaxGroups {
				return false
			}
		}
		if p.e.Op == api.ReBack && (p.e.Group < 1 || p.e.Group > groups || contains(p.within, p.e.Group)) {
			return false
		}
		if p.level > api.MaxDepth || !hasNormalFields(p.e) || !hasNormalArgs(p.e) {
			return false
		}
	}
	return true
}

func contains(list []int, n int) bool {
	for _, m := range list {
		if m == n {
			return true
		}
	}
	return false
}

func hasNormalFields(e api.Re) bool {
	// The fields of the operator are made zero, so that all of them have to be zero.
	switch e.Op {
	case api.ReSet:
		if e.Set == (api.Charset{}) {
			return false
		}
		e.Set = api.Charset{}
	case api.ReRep:
		if e.Lo < 0 || e.Lo > api.MaxRepeat || e.Hi != -1 && (e.Hi < e.Lo || e.Hi > api.MaxRepeat) {
			return false
		}
		e.Lo, e.Hi = 0, 0
	case api.ReGroup, api.ReBack:
		e.Group = 0
	}
	return e.Set == (api.Charset{}) && e.Lo == 0 && e.Hi == 0 && e.Group == 0
}

func hasNormalArgs(e api.Re) bool {
	least, most := 0, 0
	var allowed []int
	switch e.Op {
	case api.ReEmpty, api.ReSet, api.ReBegin, api.ReEnd, api.ReBack:
	case api.ReCat:
		least, most, allowed = 2, 1<<31, []int{api.ReSet, api.ReRep, api.ReGroup, api.ReBegin, api.ReEnd, api.ReBack}
	case api.ReAlt:
		least, most, allowed = 2, 1<<31, []int{api.ReSet, api.ReCat, api.ReRep, api.ReGroup, api.ReBegin, api.ReEnd, api.ReBack}
	case api.ReRep:
		least, most, allowed = 1, 1, []int{api.ReSet, api.ReGroup, api.ReBack}
	case api.ReGroup:
		least, most, allowed = 1, 1, []int{api.ReEmpty, api.ReSet, api.ReCat, api.ReAlt, api.ReRep, api.ReGroup, api.ReBegin, api.ReEnd, api.ReBack}
	default:
		return false
	}
	for _, part := range e.Args {
		if !contains(allowed, part.Op) {
			return false
		}
	}
	return least <= len(e.Args) && len(e.Args) <= most
}
