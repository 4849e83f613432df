package retext_test

import (
	"strings"

	"texttools/api"
	"texttools/locale"
)

// A machine reads a pattern by the sentences of the chapter, byte by byte. Its state is a function, which returns the state after a byte (-1 is the end of the pattern), or nil if the byte cannot follow.
type machine struct {
	pattern  string
	extended bool
	flags    int
	l        api.Locale
	// at is the offset of the byte that the state is given.
	at int
	// levels has the branches of the groups that are open; the first one is that of the pattern.
	levels []level
	groups int
	closed map[int]bool
	// repeatable tells that the last piece is an atom without a suffix.
	repeatable bool
	// failure is an error that is not ErrSyntax, and belongs to the offset after the byte, or at it.
	failure failure
}

type state func(c int) state

// A level is what has been read of a union: the branches that are complete, and the pieces of the last one.
type level struct {
	number   int
	branches []api.Re
	pieces   []api.Re
}

// defined returns what Parse has to return.
func defined(pattern string, flags int, l api.Locale) (api.Re, api.Errno, int) {
	if len(pattern) > api.MaxPattern {
		return api.Re{}, api.ErrLimit, api.MaxPattern
	}
	if locale.Check(l) != api.OK {
		l = locale.Default()
	}
	m := &machine{pattern: pattern, extended: flags&extended != 0, flags: flags, l: l, levels: []level{{}}, closed: map[int]bool{}}
	next := m.between
	for m.at = 0; m.at <= len(pattern); m.at++ {
		c := -1
		if m.at < len(pattern) {
			c = int(pattern[m.at])
		}
		current := next
		next = current(c)
		if m.failure.err != api.OK {
			return api.Re{}, m.failure.err, m.failure.at
		}
		if next == nil {
			return api.Re{}, api.ErrSyntax, m.at
		}
	}
	e := m.tree()
	if depth(e) > api.MaxDepth {
		return api.Re{}, api.ErrLimit, 0
	}
	return e, api.OK, 0
}

func depth(e api.Re) int {
	most := 0
	for _, part := range e.Args {
		most = max(most, depth(part))
	}
	return most + 1
}

func (m *machine) top() *level {
	return &m.levels[len(m.levels)-1]
}

// combined returns a node of several trees, or the only one.
func combined(op int, list []api.Re) api.Re {
	if len(list) == 1 {
		return list[0]
	}
	return api.Re{Op: op, Args: list}
}

// tree returns the tree of the last level.
func (m *machine) tree() api.Re {
	top := m.top()
	if len(top.branches) == 0 && len(top.pieces) == 0 {
		return api.Re{Op: api.ReEmpty}
	}
	return combined(api.ReAlt, append(top.branches, combined(api.ReCat, top.pieces)))
}

func (m *machine) fail(err api.Errno, at int) {
	if m.failure.err == api.OK {
		m.failure = failure{err, at}
	}
}

// piece adds a piece.
func (m *machine) piece(e api.Re, repeatable bool) state {
	m.top().pieces = append(m.top().pieces, e)
	m.repeatable = repeatable
	return m.between
}

// repeat puts the last piece into a repetition.
func (m *machine) repeat(lo, hi int) state {
	if !m.repeatable {
		return nil
	}
	pieces := m.top().pieces
	last := len(pieces) - 1
	pieces[last] = api.Re{Op: api.ReRep, Lo: lo, Hi: hi, Args: []api.Re{pieces[last]}}
	m.repeatable = false
	return m.between
}

// between is the state between two pieces.
func (m *machine) between(c int) state {
	if c == -1 {
		if len(m.levels) > 1 || len(m.top().pieces) == 0 && m.at > 0 {
			return nil
		}
		return m.between
	}
	switch c {
	case '.':
		return m.piece(m.setOf(func(c byte) bool { return c != '\n' || m.flags&lines == 0 }), true)
	case '[':
		return m.startBracket()
	case '\\':
		return m.escape
	}
	if m.extended {
		return m.betweenExtended(c)
	}
	return m.betweenBasic(c)
}

func (m *machine) betweenExtended(c int) state {
	top := m.top()
	switch c {
	case '(':
		return m.open(m.at)
	case ')':
		if len(top.pieces) == 0 && len(top.branches) > 0 {
			return nil
		}
		return m.close()
	case '|':
		if len(top.pieces) == 0 {
			return nil
		}
		top.branches, top.pieces, m.repeatable = append(top.branches, combined(api.ReCat, top.pieces)), nil, false
		return m.between
	case '^':
		return m.piece(begin, false)
	case '$':
		return m.piece(end, false)
	case '*':
		return m.repeat(0, -1)
	case '+':
		return m.repeat(1, -1)
	case '?':
		return m.repeat(0, 1)
	case '{':
		return m.startBounds()
	}
	return m.piece(m.byte(byte(c)), true)
}

func (m *machine) betweenBasic(c int) state {
	pieces, rest := m.top().pieces, m.pattern[m.at+1:]
	first := len(pieces) == 0
	switch {
	case c == '^' && first:
		return m.piece(begin, false)
	case c == '$' && (rest == "" || strings.HasPrefix(rest, `\)`)):
		return m.piece(end, false)
	case c == '*' && !first && !(len(pieces) == 1 && pieces[0].Op == api.ReBegin):
		return m.repeat(0, -1)
	}
	return m.piece(m.byte(byte(c)), true)
}

// open begins a group, whose opening parenthesis is at this offset.
func (m *machine) open(at int) state {
	m.groups++
	if m.groups > api.MaxGroups {
		m.fail(api.ErrLimit, at)
	}
	m.levels = append(m.levels, level{number: m.groups})
	m.repeatable = false
	return m.between
}

func (m *machine) close() state {
	if len(m.levels) == 1 {
		return nil
	}
	e := api.Re{Op: api.ReGroup, Group: m.top().number, Args: []api.Re{m.tree()}}
	m.closed[e.Group] = true
	m.levels = m.levels[:len(m.levels)-1]
	return m.piece(e, true)
}

// escape is the state after a backslash.
func (m *machine) escape(c int) state {
	switch {
	case c == 'n':
		return m.piece(m.byte('\n'), true)
	case c == 't':
		return m.piece(m.byte('\t'), true)
	case '1' <= c && c <= '9':
		if !m.closed[c-'0'] {
			m.fail(api.ErrName, m.at-1)
		}
		return m.piece(api.Re{Op: api.ReBack, Group: c - '0'}, true)
	case c >= 0 && strings.IndexByte(special[m.extended]+"/", byte(c)) >= 0:
		return m.piece(m.byte(byte(c)), true)
	case !m.extended && c == '(':
		return m.open(m.at - 1)
	case !m.extended && c == ')' && len(m.top().pieces) > 0:
		return m.close()
	case !m.extended && c == '{':
		return m.startBounds()
	}
	return nil
}

// startBounds returns the state after the brace that opens a suffix.
func (m *machine) startBounds() state {
	if !m.repeatable {
		return nil
	}
	var first, second string
	from := m.at + 1
	// value returns a number, which ends before the present byte.
	value := func(digits string) int {
		n := 0
		for i := range len(digits) {
			n = min(n*10+int(digits[i]-'0'), api.MaxRepeat+1)
		}
		if n > api.MaxRepeat {
			m.fail(api.ErrLimit, from)
		}
		return n
	}
	closing := func(lo, hi int) state {
		return func(c int) state {
			if c != '}' {
				return nil
			}
			return m.repeat(lo, hi)
		}
	}
	// after returns the state after a byte that follows the bounds.
	after := func(c, lo, hi int) state {
		if !m.extended && c == '\\' {
			return closing(lo, hi)
		}
		if !m.extended {
			return nil
		}
		return closing(lo, hi)(c)
	}
	var inFirst, comma, inSecond state
	inFirst = func(c int) state {
		if isDigit(c) && first != "0" {
			first += string(rune(c))
			return inFirst
		}
		if first == "" {
			return nil
		}
		lo := value(first)
		if c == ',' {
			return comma
		}
		return after(c, lo, lo)
	}
	comma = func(c int) state {
		from = m.at
		if isDigit(c) {
			return inSecond(c)
		}
		return after(c, value(first), -1)
	}
	inSecond = func(c int) state {
		if isDigit(c) && second != "0" {
			second += string(rune(c))
			return inSecond
		}
		hi := value(second)
		lo := value(first)
		if hi < lo {
			m.fail(api.ErrRange, from)
		}
		return after(c, lo, hi)
	}
	return inFirst
}

func isDigit(c int) bool {
	return '0' <= c && c <= '9'
}

// setOf returns the tree of the bytes for which is returns true.
func (m *machine) setOf(is func(c byte) bool) api.Re {
	var list []byte
	for c := range 256 {
		if is(byte(c)) {
			list = append(list, byte(c))
		}
	}
	return set(string(list))
}

// byte returns the tree of a byte.
func (m *machine) byte(c byte) api.Re {
	return m.setOf(m.folded(func(d byte) bool { return d == c }))
}

// folded returns whether a byte is in the set, or with ReFold one of the forms of its bytes.
func (m *machine) folded(is func(c byte) bool) func(c byte) bool {
	var in [256]bool
	for c := range in {
		if is(byte(c)) {
			in[c] = true
			if m.flags&fold != 0 {
				in[m.l.Lower[c]], in[m.l.Upper[c]] = true, true
			}
		}
	}
	return func(c byte) bool { return in[c] }
}
