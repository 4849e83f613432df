package retext

import (
	"texttools/api"
	"texttools/charset"
	"texttools/num"
)

// Print returns the pattern in the extended syntax whose tree is e; the errors are ErrType and ErrLimit, in this order.
func Print(e api.Re) (string, api.Errno) {
	if !isNormal(e) {
		return "", api.ErrType
	}
	pattern := appendTree(nil, e)
	if len(pattern) > api.MaxPattern {
		return "", api.ErrLimit
	}
	return string(pattern), api.OK
}

func appendTree(pattern []byte, e api.Re) []byte {
	switch e.Op {
	case api.ReSet:
		return append(pattern, formatSet(e.Set)...)
	case api.ReCat:
		return appendParts(pattern, e.Args, "")
	case api.ReAlt:
		return appendParts(pattern, e.Args, "|")
	case api.ReRep:
		return append(appendTree(pattern, e.Args[0]), formatSuffix(e.Lo, e.Hi)...)
	case api.ReGroup:
		return append(appendTree(append(pattern, '('), e.Args[0]), ')')
	case api.ReBegin:
		return append(pattern, '^')
	case api.ReEnd:
		return append(pattern, '$')
	case api.ReBack:
		return append(append(pattern, '\\'), num.Format(e.Group)...)
	}
	return pattern
}

func appendParts(pattern []byte, parts []api.Re, separator string) []byte {
	for i, part := range parts {
		// A pattern that is too long already is not returned, and parts that share memory could make it much longer.
		if len(pattern) > api.MaxPattern {
			break
		}
		if i > 0 {
			pattern = append(pattern, separator...)
		}
		pattern = appendTree(pattern, part)
	}
	return pattern
}

func formatSuffix(lo, hi int) string {
	switch {
	case lo == 0 && hi == unbounded:
		return "*"
	case lo == 1 && hi == unbounded:
		return "+"
	case lo == 0 && hi == 1:
		return "?"
	case lo == hi:
		return "{" + num.Format(lo) + "}"
	case hi == unbounded:
		return "{" + num.Format(lo) + ",}"
	}
	return "{" + num.Format(lo) + "," + num.Format(hi) + "}"
}

func formatSet(set api.Charset) string {
	list := charset.List(set)
	switch {
	case charset.Complement(set) == api.Charset{}:
		return "."
	case len(list) == 1 && isSpecial(rune(list[0]), true):
		return `\` + list
	case len(list) == 1:
		return list
	}
	return formatBracket(list)
}

// formatBracket returns the bracket with the bytes of the list, which are in ascending order.
func formatBracket(list string) string {
	bracket := "["
	for list != "" {
		size := 1
		for size < len(list) && list[size] == list[size-1]+1 {
			size++
		}
		bracket += formatRun(list[:size])
		list = list[size:]
	}
	return bracket + "]"
}

// formatRun returns the item of a bracket for successive bytes.
func formatRun(run string) string {
	first, last := formatRangeEnd(run[0]), formatRangeEnd(run[len(run)-1])
	switch len(run) {
	case 1:
		return first
	case 2:
		return first + last
	}
	return first + "-" + last
}

func formatRangeEnd(c byte) string {
	text := string([]byte{c})
	switch c {
	case '[', ']', '^', '-':
		return "[." + text + ".]"
	}
	return text
}
