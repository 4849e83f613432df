package retext

import (
	"strings"

	"texttools/api"
)

// The kinds of tokens beside the operators, whose kinds are the characters that write them in the extended syntax.
const (
	// end stands for what follows the last byte of the pattern.
	end rune = -1
	// plain is the kind of a byte that denotes itself, or of an escape that denotes a byte.
	plain rune = -2
	// reference is the kind of a back reference.
	reference rune = -3
	// invalid is the kind of a backslash before a byte with which it is no escape.
	invalid rune = -4
)

// A token has a value if it denotes a byte, or refers to a group by a digit.
type token struct {
	kind  rune
	value byte
	size  int
}

// token returns the token that is read next.
func (p *parser) token() token {
	c := p.peek()
	switch {
	case c == end:
		return token{kind: end, size: 1}
	case c == '\\':
		return p.escape()
	case p.isOperator(c):
		return token{kind: c, size: 1}
	}
	return token{kind: plain, value: byte(c), size: 1}
}

// isOperator reports whether c, which is read next, is more than a plain byte.
func (p *parser) isOperator(c rune) bool {
	extended := p.has(api.ReExtended)
	switch {
	case c == ']' || c == '}':
		// Where they end something, they are read together with it.
		return false
	case c == '*' && !extended:
		return !p.afterStart()
	case c == '^' && !extended:
		return p.at == p.start
	case c == '$' && !extended:
		rest := p.pattern[p.at+1:]
		return rest == "" || strings.HasPrefix(rest, `\)`)
	}
	return isSpecial(c, extended)
}

// afterStart reports whether a branch of the basic syntax begins here, or has only its anchor before.
func (p *parser) afterStart() bool {
	before := p.pattern[p.start:p.at]
	return before == "" || before == "^"
}

// isSpecial reports whether c is a special byte of one of the syntaxes.
func isSpecial(c rune, extended bool) bool {
	switch c {
	case '.', '[', ']', '*', '^', '$', '\\':
		return true
	case '(', ')', '+', '?', '{', '}', '|':
		return extended
	}
	return false
}

// escape returns the token that begins with the backslash that is read next.
func (p *parser) escape() token {
	extended := p.has(api.ReExtended)
	c := p.peekAt(p.at + 1)
	t := token{kind: plain, value: byte(c), size: 2}
	switch {
	case c == 'n':
		t.value = '\n'
	case c == 't':
		t.value = '\t'
	case '1' <= c && c <= '9':
		t.kind = reference
	case c == '/' || isSpecial(c, extended):
		// It denotes itself.
	case !extended && (c == '(' || c == ')' || c == '{'):
		t.kind = c
	default:
		t.kind = invalid
	}
	return t
}

// accept moves past the token that is read next, if it is of this kind.
func (p *parser) accept(kind rune) bool {
	t := p.token()
	if t.kind != kind {
		return false
	}
	p.at += t.size
	return true
}

// unexpected fails at the token that is read next.
func (p *parser) unexpected() {
	// A backslash can begin a token anywhere: only the byte after it cannot follow.
	p.fail(api.ErrSyntax, p.at+p.token().size-1)
}

// peek returns the byte that is read next, or end.
func (p *parser) peek() rune {
	return p.peekAt(p.at)
}

func (p *parser) peekAt(at int) rune {
	if at >= len(p.pattern) {
		return end
	}
	return rune(p.pattern[at])
}

// acceptByte moves past the byte that is read next, if it is c.
func (p *parser) acceptByte(c rune) bool {
	if p.peek() != c {
		return false
	}
	p.at++
	return true
}

// expectByte moves past the byte that is read next, which must be c.
func (p *parser) expectByte(c rune) {
	if !p.acceptByte(c) {
		p.fail(api.ErrSyntax, p.at)
	}
}
