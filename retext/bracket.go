package retext

import (
	"strings"

	"texttools/api"
	"texttools/charset"
	"texttools/locale"
)

// bracket reads a bracket, whose opening [ is read next.
func (p *parser) bracket() api.Re {
	from := p.at
	p.acceptByte('[')
	inverted := p.acceptByte('^')
	// Only the first item can begin with a ], which otherwise ends the bracket.
	set := p.item()
	for p.peek() != ']' && p.peek() != end {
		set = charset.Union(set, p.item())
	}
	p.expectByte(']')
	set = p.folded(set)
	if inverted {
		set = p.withoutLineFeed(charset.Complement(set))
	}
	if set == (api.Charset{}) {
		p.fail(api.ErrRange, from)
	}
	return setOf(set)
}

// folded returns the set, with the flag ReFold together with the lower-case and the upper-case forms of its bytes.
func (p *parser) folded(set api.Charset) api.Charset {
	if !p.has(api.ReFold) {
		return set
	}
	list := charset.List(set)
	return charset.Union(set, charset.Of(locale.Lower(p.locale, list)+locale.Upper(p.locale, list)))
}

// withoutLineFeed returns the set, with the flag ReLines without the line feed.
func (p *parser) withoutLineFeed(set api.Charset) api.Charset {
	if !p.has(api.ReLines) {
		return set
	}
	return charset.Minus(set, charset.Of("\n"))
}

// item reads an item of a bracket, and returns its set.
func (p *parser) item() api.Charset {
	rest := p.pattern[p.at:]
	switch {
	case strings.HasPrefix(rest, "[:"):
		return p.class()
	case strings.HasPrefix(rest, "[="):
		return locale.Equivalent(p.locale, p.enclosed('='))
	}
	from := p.at
	lo := p.rangeEnd()
	if p.peek() != '-' || p.peekAt(p.at+1) == ']' {
		return charset.Range(lo, lo)
	}
	p.acceptByte('-')
	hi := p.rangeEnd()
	set, ok := locale.Between(p.locale, lo, hi)
	if !ok {
		p.fail(api.ErrRange, from)
	}
	return set
}

// class reads a class, which begins with "[:".
func (p *parser) class() api.Charset {
	from := p.at
	name, _, ended := strings.Cut(p.pattern[from+len("[:"):], ":]")
	if !ended {
		p.fail(api.ErrSyntax, len(p.pattern))
		return api.Charset{}
	}
	set, ok := locale.Class(p.locale, name)
	if !ok {
		p.fail(api.ErrName, from)
		return api.Charset{}
	}
	p.at += len("[:") + len(name) + len(":]")
	return set
}

// rangeEnd reads a byte that stands for itself or is an end of a range.
func (p *parser) rangeEnd() byte {
	if strings.HasPrefix(p.pattern[p.at:], "[.") {
		return p.enclosed('.')
	}
	c := p.anyByte()
	if c == '[' && (p.peek() == ':' || p.peek() == '=' || p.peek() == end) {
		p.fail(api.ErrSyntax, p.at)
	}
	return c
}

// enclosed reads a byte between brackets with this mark, the first of which is read next.
func (p *parser) enclosed(mark rune) byte {
	p.expectByte('[')
	p.expectByte(mark)
	c := p.anyByte()
	p.expectByte(mark)
	p.expectByte(']')
	return c
}

// anyByte reads any byte, but not the end of the pattern.
func (p *parser) anyByte() byte {
	c := p.peek()
	if c == end {
		p.fail(api.ErrSyntax, p.at)
		return 0
	}
	p.at++
	return byte(c)
}
