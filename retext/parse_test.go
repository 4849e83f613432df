package retext_test

import (
	"strings"
	"testing"

	"texttools/api"
	"texttools/locale"
	"texttools/retext"
)

func TestP7_1Extended(t *testing.T) {
	a, b, c := set("a"), set("b"), set("c")
	checkTrees(t, extended, map[string]api.Re{
		"": empty, "a": a, "ab": cat(a, b), "abc": cat(a, b, c), "a|b": alt(a, b), "a|b|c": alt(a, b, c), "ab|c": alt(cat(a, b), c), "a|bc": alt(a, cat(b, c)),
		"a|bc*": alt(a, cat(b, rep(0, -1, c))), "ab*": cat(a, rep(0, -1, b)), "a*b": cat(rep(0, -1, a), b), "a*|b+": alt(rep(0, -1, a), rep(1, -1, b)),
		"^": begin, "$": end, "^$": cat(begin, end), "$^": cat(end, begin), "^^": cat(begin, begin), "$$": cat(end, end), "^a$": cat(begin, a, end), "a^b": cat(a, begin, b), "a$b": cat(a, end, b), "^|$": alt(begin, end), "a*^": cat(rep(0, -1, a), begin),
		"()": group(1, empty), "(a)": group(1, a), "(ab)": group(1, cat(a, b)), "(a|b)": group(1, alt(a, b)), "(a)|b": alt(group(1, a), b), "(^)": group(1, begin), "($)": group(1, end), "(^a$)": group(1, cat(begin, a, end)), "a|^b$|()": alt(a, cat(begin, b, end), group(1, empty)),
		"((a))": group(1, group(2, a)), "((a)(b))(c)": cat(group(1, cat(group(2, a), group(3, b))), group(4, c)), "()()": cat(group(1, empty), group(2, empty)), "(())": group(1, group(2, empty)), "(a|(b|c))": group(1, alt(a, group(2, alt(b, c)))), "(a|b|(c))|()": alt(group(1, alt(a, b, group(2, c))), group(3, empty)),
		"(a)*": rep(0, -1, group(1, a)), "()+": rep(1, -1, group(1, empty)), "(a)(b)?": cat(group(1, a), rep(0, 1, group(2, b))), "(a*)*": rep(0, -1, group(1, rep(0, -1, a))), "((a)*b){2}": rep(2, 2, group(1, cat(rep(0, -1, group(2, a)), b))),
		"]": set("]"), "}": set("}"), "a]": cat(a, set("]")), "a}": cat(a, set("}")), "]*": rep(0, -1, set("]")), "}{2}": rep(2, 2, set("}")), "a{2}}": cat(rep(2, 2, a), set("}")), "[a]]": cat(a, set("]")), "(])": group(1, set("]")), "]|}": alt(set("]"), set("}")),
		"-": set("-"), "a,1": cat(a, set(","), set("1")), "\x00\n\xff": cat(set("\x00"), set("\n"), set("\xff")), "é": cat(set("\xc3"), set("\xa9")), ":=": cat(set(":"), set("=")),
	})
}

func TestP7_1Suffixes(t *testing.T) {
	for suffix, bounds := range map[string][2]int{
		"*": {0, -1}, "{0}": {0, 0}, "{1}": {1, 1}, "{2}": {2, 2}, "{9}": {9, 9}, "{10}": {10, 10}, "{63}": {63, 63}, "{64}": {64, 64}, "{0,}": {0, -1}, "{1,}": {1, -1}, "{64,}": {64, -1}, "{13,}": {13, -1},
		"{0,0}": {0, 0}, "{0,1}": {0, 1}, "{1,1}": {1, 1}, "{0,64}": {0, 64}, "{64,64}": {64, 64}, "{3,17}": {3, 17}, "{2,3}": {2, 3}, "{9,10}": {9, 10}, "{63,64}": {63, 64},
	} {
		for _, atom := range []struct {
			extended, basic string
			tree            api.Re
		}{
			{"a", "a", set("a")}, {".", ".", but("")}, {"[ab]", "[ab]", set("ab")}, {`\.`, `\.`, set(".")}, {`\n`, `\n`, set("\n")}, {"(ab)", `\(ab\)`, group(1, word("ab"))}, {"]", "]", set("]")}, {"}", "}", set("}")}, {`\*`, "*", set("*")}, {`\*`, `\*`, set("*")},
		} {
			escaped := strings.NewReplacer("{", `\{`, "}", `\}`).Replace(suffix)
			want := rep(bounds[0], bounds[1], atom.tree)
			checkTree(t, atom.extended+suffix, extended, locale.Default(), want)
			checkTree(t, atom.basic+escaped, 0, locale.Default(), want)
			checkTree(t, "x"+atom.extended+suffix+"y", extended, locale.Default(), cat(set("x"), want, set("y")))
		}
		checkTree(t, `(a)\1`+suffix, extended, locale.Default(), cat(group(1, set("a")), rep(bounds[0], bounds[1], back(1))))
	}
	checkTree(t, "a+", extended, locale.Default(), rep(1, -1, set("a")))
	checkTree(t, "a?", extended, locale.Default(), rep(0, 1, set("a")))
	checkTree(t, "(a?)+", extended, locale.Default(), rep(1, -1, group(1, rep(0, 1, set("a")))))
}

func TestP7_1Basic(t *testing.T) {
	a, b, star := set("a"), set("b"), set("*")
	checkTrees(t, 0, map[string]api.Re{
		"": empty, "a": a, "ab": cat(a, b), "ab*": cat(a, rep(0, -1, b)), `a\{2\}b`: cat(rep(2, 2, a), b), `a\{2,\}`: rep(2, -1, a), `a\{2,3\}`: rep(2, 3, a),
		"a|b": word("a|b"), "(a)": word("(a)"), "a+": word("a+"), "a?b": word("a?b"), "a{2}": word("a{2}"), "{": set("{"), "}": set("}"), "]": set("]"), "a]": word("a]"), "a{,": word("a{,"), "()": word("()"), "|": set("|"), "+*": rep(0, -1, set("+")), ")(": word(")("),
		`\(a\)`: group(1, a), `\(ab\)*`: rep(0, -1, group(1, cat(a, b))), `\(\(a\)\)`: group(1, group(2, a)), `\(a\)\(b\)`: cat(group(1, a), group(2, b)), `\(\(a\)b\)\{2\}`: rep(2, 2, group(1, cat(group(2, a), b))), `\((\))`: cat(group(1, set("(")), set(")")),
		`\(a*\)\1`: cat(group(1, rep(0, -1, a)), back(1)), `\(a\)\1*`: cat(group(1, a), rep(0, -1, back(1))), `\(a\)\(b\1\)\2`: cat(group(1, a), group(2, cat(b, back(1))), back(2)),
		"*": star, "**": rep(0, -1, star), "*a": cat(star, a), "*a^b$c": word("*a^b$c"), `*\{2\}`: rep(2, 2, star), `*\{2\}a`: cat(rep(2, 2, star), a), "a*": rep(0, -1, a), "x*a": cat(rep(0, -1, set("x")), a), ".*": rep(0, -1, but("")),
		`\(*\)`: group(1, star), `\(**\)`: group(1, rep(0, -1, star)), `\(*a\)*`: rep(0, -1, group(1, cat(star, a))), `\(*\{2,3\}\)`: group(1, rep(2, 3, star)), `a\(*\)`: cat(a, group(1, star)), `\(a\)*`: rep(0, -1, group(1, a)), `\(a*\)`: group(1, rep(0, -1, a)),
	})
}

func TestP7_1BasicAnchors(t *testing.T) {
	a, star, up, dollar := set("a"), set("*"), set("^"), set("$")
	checkTrees(t, 0, map[string]api.Re{
		"^": begin, "$": end, "^$": cat(begin, end), "^a": cat(begin, a), "a$": cat(a, end), "^a$": cat(begin, a, end), "^*": cat(begin, star), "^*a$": cat(begin, star, a, end), "^**": cat(begin, rep(0, -1, star)), `^*\{2\}`: cat(begin, rep(2, 2, star)), "^*$": cat(begin, star, end),
		"^^": cat(begin, up), "^^*": cat(begin, rep(0, -1, up)), "^^^": cat(begin, up, up), "a^": cat(a, up), "a^*": cat(a, rep(0, -1, up)), "a^b": word("a^b"), "*^": cat(star, up), "*^*": cat(star, rep(0, -1, up)), `a^\{3\}`: cat(a, rep(3, 3, up)), "^a^$": cat(begin, a, up, end), "**^": cat(rep(0, -1, star), up),
		"$$": cat(dollar, end), "$a": cat(dollar, a), "$*": rep(0, -1, dollar), "$*$": cat(rep(0, -1, dollar), end), `$\{2\}`: rep(2, 2, dollar), "$^": cat(dollar, up), "a$b": word("a$b"), "a*$": cat(rep(0, -1, a), end), "^$$": cat(begin, dollar, end), "$$$": cat(dollar, dollar, end), `$\$`: cat(dollar, dollar), `$\n`: cat(dollar, set("\n")), "$)": word("$)"),
		`\(^a\)`: group(1, cat(begin, a)), `\(a$\)`: group(1, cat(a, end)), `\(^\)`: group(1, begin), `\($\)`: group(1, end), `\(^$\)`: group(1, cat(begin, end)), `\(^*\)`: group(1, cat(begin, star)), `\(^*$\)*`: rep(0, -1, group(1, cat(begin, star, end))), `\(^^\)`: group(1, cat(begin, up)), `\($$\)`: group(1, cat(dollar, end)),
		`\(a\)^`: cat(group(1, a), up), `\(a\)^*`: cat(group(1, a), rep(0, -1, up)), `\(a\)$`: cat(group(1, a), end), `$\(a\)`: cat(dollar, group(1, a)), `^\(a\)`: cat(begin, group(1, a)), `^\(*\)`: cat(begin, group(1, star)), `^\(^\)`: cat(begin, group(1, begin)), `\(^\)^`: cat(group(1, begin), up), `\(^\)*`: rep(0, -1, group(1, begin)),
		`\(a^\)`: group(1, cat(a, up)), `\(a^b$c\)`: group(1, word("a^b$c")), `\($a\)`: group(1, cat(dollar, a)), `\($*\)`: group(1, rep(0, -1, dollar)), `\(\($\)\)`: group(1, group(2, end)), `\(\(^a\)b$\)$`: cat(group(1, cat(group(2, cat(begin, a)), set("b"), end)), end), `a\(^b\)`: cat(a, group(1, cat(begin, set("b")))), `\(a$\)b`: cat(group(1, cat(a, end)), set("b")),
		`\^*`: rep(0, -1, up), `\^`: up, `\$`: dollar, `\**`: rep(0, -1, star), `^\*`: cat(begin, star), `[*]*`: rep(0, -1, star), `\(\^*\)`: group(1, rep(0, -1, up)), "x^*y$z": cat(set("x"), rep(0, -1, up), set("y"), dollar, set("z")), `a\n*`: cat(a, rep(0, -1, set("\n"))),
	})
}

// special has the special bytes of both syntaxes.
var special = map[bool]string{true: `.[]()*+?{}|^$\`, false: `.[]*^$\`}

// eachByte calls check for every byte and both syntaxes, with the flags of the syntax.
func eachByte(check func(c byte, s string, flags int)) {
	for c := range 256 {
		for _, flags := range []int{0, extended} {
			check(byte(c), string([]byte{byte(c)}), flags)
		}
	}
}

func TestP7_1EveryByteAlone(t *testing.T) {
	l := locale.Default()
	eachByte(func(c byte, s string, flags int) {
		isExtended := flags == extended
		switch {
		case c == '[' || c == '\\' || c == '(' && isExtended:
			checkError(t, s, flags, l, api.ErrSyntax, 1)
			checkError(t, "a"+s, flags, l, api.ErrSyntax, 2)
		case isExtended && strings.Contains(")*+?{|", s):
			checkError(t, s, flags, l, api.ErrSyntax, 0)
		case c == '.':
			checkTree(t, s, flags, l, but(""))
		case c == '^':
			checkTree(t, s, flags, l, begin)
		case c == '$':
			checkTree(t, s, flags, l, end)
		default:
			checkTree(t, s, flags, l, set(s))
			if c != '*' {
				checkTree(t, "a"+s+"b", flags, l, cat(set("a"), set(s), set("b")))
			}
		}
	})
}

func TestP7_1EveryByteEscaped(t *testing.T) {
	l := locale.Default()
	eachByte(func(c byte, s string, flags int) {
		pattern := `\` + s
		switch {
		case '1' <= c && c <= '9':
			checkError(t, pattern, flags, l, api.ErrName, 0)
			checkError(t, "a"+pattern+"b", flags, l, api.ErrName, 1)
		case c == 'n':
			checkTree(t, pattern, flags, l, set("\n"))
		case c == 't':
			checkTree(t, pattern, flags, l, set("\t"))
		case c == '/' || strings.Contains(special[flags == extended], s):
			checkTree(t, pattern, flags, l, set(s))
			checkTree(t, "a"+pattern+"b", flags, l, cat(set("a"), set(s), set("b")))
			checkTree(t, pattern+"*", flags, l, rep(0, -1, set(s)))
		case c == '(':
			checkError(t, pattern, flags, l, api.ErrSyntax, 2)
		default:
			checkError(t, pattern, flags, l, api.ErrSyntax, 1)
			checkError(t, "aa"+pattern+"b", flags, l, api.ErrSyntax, map[bool]int{false: 3, true: 4}[c == '{'])
		}
	})
}

func TestP7_1EveryByteInABracket(t *testing.T) {
	l := locale.Default()
	eachByte(func(c byte, s string, flags int) {
		if c == '^' {
			checkError(t, "[^]", flags, l, api.ErrSyntax, 3)
		} else {
			checkTree(t, "["+s+"]", flags, l, set(s))
			checkTree(t, "[^"+s+"]", flags, l, but(s))
			checkTree(t, "["+s+"x]", flags, l, set(s+"x"))
		}
		checkTree(t, "[[."+s+".]]", flags, l, set(s))
		checkTree(t, "[[="+s+"=]]", flags, l, set(s))
		checkTree(t, "[[."+s+".]-[."+s+".]]", flags, l, set(s))
		if c == ']' {
			checkTree(t, "[x"+s+"]", flags, l, cat(set("x"), set("]")))
		} else {
			checkTree(t, "[x"+s+"]", flags, l, set("x"+s))
			checkTree(t, "[x"+s+"y]", flags, l, map[bool]api.Re{false: set("x" + s + "y"), true: set("xy")}[c == '-'])
		}
	})
}

func TestP7_1Flags(t *testing.T) {
	l := locale.Default()
	for flags := range 16 {
		isFold, isLines := flags&fold != 0, flags&lines != 0
		a, dot, not := set("a"), but(""), but("a")
		if isFold {
			a, not = set("aA"), but("aA")
		}
		if isLines {
			dot, not = but("\n"), but("\n"+bytesOf(a.Set))
		}
		for _, more := range []int{0, 8, 64, -16, 1 << 40} {
			checkTree(t, "a", flags|more, l, a)
			checkTree(t, "A", flags|more, l, map[bool]api.Re{false: set("A"), true: set("aA")}[isFold])
			checkTree(t, ".", flags|more, l, dot)
			checkTree(t, "[a]", flags|more, l, a)
			checkTree(t, "[^a]", flags|more, l, not)
			checkTree(t, `\n`, flags|more, l, set("\n"))
			checkTree(t, "[\n]", flags|more, l, set("\n"))
			checkTree(t, "[^\n]", flags|more, l, but("\n"))
			checkTree(t, "\n", flags|more, l, set("\n"))
			checkTree(t, "^", flags|more, l, begin)
			checkTree(t, "", flags|more, l, empty)
			if flags&extended != 0 {
				checkTree(t, "(a)|.", flags|more, l, alt(group(1, a), dot))
			} else {
				checkTree(t, "(a)|.", flags|more, l, cat(set("("), a, set(")"), set("|"), dot))
			}
		}
	}
}

func TestP7_1FoldEveryByte(t *testing.T) {
	for _, l := range someLocales() {
		lower, upper := locale.Lower(l, table(func(c byte) byte { return c })), locale.Upper(l, table(func(c byte) byte { return c }))
		for _, flags := range []int{fold, fold | lines, fold | extended, allFlags} {
			for c := range 256 {
				s := string([]byte{byte(c)})
				want := set(s + lower[c:c+1] + upper[c:c+1])
				if strings.Contains(special[flags&extended != 0], s) {
					s = `\` + s
				}
				checkTree(t, s, flags, l, want)
				checkTree(t, "[[."+s[len(s)-1:]+".]]", flags, l, want)
			}
			checkTree(t, `\n\t\/`, flags, l, cat(set("\n"+lower[10:11]+upper[10:11]), set("\t"+lower[9:10]+upper[9:10]), set("/"+lower['/':'0']+upper['/':'0'])))
			checkTree(t, "^.$", flags, l, cat(begin, map[bool]api.Re{false: but(""), true: but("\n")}[flags&lines != 0], end))
		}
	}
}

func TestP7_1References(t *testing.T) {
	a := set("a")
	checkTrees(t, extended, map[string]api.Re{
		`(a)\1`: cat(group(1, a), back(1)), `(a)|\1`: alt(group(1, a), back(1)), `(a)(\1)\2\1`: cat(group(1, a), group(2, back(1)), back(2), back(1)), `((a)\2)\1`: cat(group(1, cat(group(2, a), back(2))), back(1)), `()\1`: cat(group(1, empty), back(1)),
		`(a)\11`: cat(group(1, a), back(1), set("1")), `(a)\10`: cat(group(1, a), back(1), set("0")), `(a)*\1`: cat(rep(0, -1, group(1, a)), back(1)), `(a)(\1*|a)+`: cat(group(1, a), rep(1, -1, group(2, alt(rep(0, -1, back(1)), a)))), `(a|()\2)`: group(1, alt(a, cat(group(2, empty), back(2)))),
	})
	nine, basic := strings.Repeat("()", 9), strings.Repeat(`\(a\)`, 9)
	for number := '1'; number <= '9'; number++ {
		got, err, at := retext.Parse(nine+`\`+string(number), extended, locale.Default())
		if err != api.OK || at != 0 || len(got.Args) != 10 || !same(got.Args[9], back(int(number-'0'))) || !same(got.Args[8], group(9, empty)) {
			t.Errorf("the reference %c after nine groups is %s, %v, %d", number, show(got), err, at)
		}
		got, err, at = retext.Parse(basic+`\`+string(number), 0, locale.Default())
		if err != api.OK || at != 0 || len(got.Args) != 10 || !same(got.Args[9], back(int(number-'0'))) || !same(got.Args[8], group(9, a)) {
			t.Errorf("the basic reference %c after nine groups is %s, %v, %d", number, show(got), err, at)
		}
	}
}

func TestP7_1Limits(t *testing.T) {
	l := locale.Default()
	for _, flags := range []int{0, extended, allFlags} {
		checkTree(t, strings.Repeat(".", 256), flags&^lines, l, cat(repeated(but(""), 256)...))
		checkTree(t, strings.Repeat("[1]", 85)+"1", flags, l, cat(repeated(set("1"), 86)...))
		for _, long := range []string{strings.Repeat("a", 257), strings.Repeat(")", 257), strings.Repeat("a", 256) + "[", strings.Repeat("(", 100000), strings.Repeat(`\9`, 129), strings.Repeat("\xff", 300)} {
			checkError(t, long, flags, l, api.ErrLimit, 256)
		}
	}
	checkTree(t, strings.Repeat(`a|`, 127)+"aa", extended, l, alt(append(repeated(set("a"), 127), word("aa"))...))
	checkTree(t, "("+strings.Repeat("a", 254)+")", extended, l, group(1, cat(repeated(set("a"), 254)...)))
}

func repeated(e api.Re, count int) []api.Re {
	var list []api.Re
	for range count {
		list = append(list, e)
	}
	return list
}

// deep returns a pattern that adds four levels for each of count groups to those of the pattern within them.
func deep(count int, within string) string {
	return strings.Repeat("x|y(", count) + within + strings.Repeat(")*", count)
}

func TestP7_1Depth(t *testing.T) {
	l := locale.Default()
	deepest := alt(set("x"), cat(set("y"), group(8, set("z"))))
	for number := 7; number > 0; number-- {
		deepest = alt(set("x"), cat(set("y"), rep(0, -1, group(number, deepest))))
	}
	checkTree(t, deep(7, "x|y(z)"), extended, l, deepest)
	checkError(t, deep(7, "x|y(z)*"), extended, l, api.ErrLimit, 0)
	checkError(t, deep(7, "x|y(zz)"), extended, l, api.ErrLimit, 0)
	checkError(t, deep(9, "a|b"), extended, l, api.ErrLimit, 0)
	checkError(t, "a"+deep(8, "a"), allFlags, l, api.ErrLimit, 0)
	checkError(t, "(a)"+deep(8, "a"), allFlags, l, api.ErrLimit, 0)
	// The levels count at last, after every other error.
	for last, f := range map[string]failure{")": {api.ErrSyntax, 0}, "**": {api.ErrSyntax, 0}, `\9`: {api.ErrName, 0}, "a{65}": {api.ErrLimit, 2}, "[z-a]": {api.ErrRange, 1}, "(": {api.ErrSyntax, 1}, "|": {api.ErrSyntax, 1}} {
		pattern := deep(8, "a")
		checkError(t, pattern+last, extended, l, f.err, len(pattern)+f.at)
	}
	pattern := deep(9, "a")
	checkError(t, pattern+"a(b)", extended, l, api.ErrLimit, len(pattern)+1)
	checkTree(t, "(((((((((a)*)*)*)*)*)*)*)*)*", extended, l, nested(9))
	checkTree(t, strings.Repeat(`\(`, 9)+"a"+strings.Repeat(`\)*`, 9), 0, l, nested(9))
}

// nested returns the tree of a in so many repetitions of groups.
func nested(count int) api.Re {
	e := set("a")
	for number := count; number > 0; number-- {
		e = rep(0, -1, group(number, e))
	}
	return e
}

func TestP7_1Examples(t *testing.T) {
	checkTrees(t, extended, map[string]api.Re{
		"a|bc*": alt(set("a"), cat(set("b"), rep(0, -1, set("c")))), "()": group(1, empty), "[a-c-e]": set("abc-e"), "[]a]": set("]a"),
	})
	checkTrees(t, 0, map[string]api.Re{
		`\(a*\)\1`: cat(group(1, rep(0, -1, set("a"))), back(1)), "*a^b$c": word("*a^b$c"), "^*a$": cat(begin, set("*"), set("a"), end),
	})
	checkErrors(t, extended, map[string]failure{
		"(a|)": {api.ErrSyntax, 3}, "|": {api.ErrSyntax, 0}, "[z-a]": {api.ErrRange, 1}, "[[:foo:]]": {api.ErrName, 1}, "a{65}": {api.ErrLimit, 2}, "a{01}": {api.ErrSyntax, 3}, "a{2,1}": {api.ErrRange, 4}, "a{2,1": {api.ErrRange, 4}, "a**": {api.ErrSyntax, 2}, `\1`: {api.ErrName, 0},
	})
	checkErrors(t, 0, map[string]failure{`\1`: {api.ErrName, 0}, "a**": {api.ErrSyntax, 2}, "[z-a]": {api.ErrRange, 1}})
}

func TestP7_1NewMemory(t *testing.T) {
	l := shifted()
	before := l.Weights[97]
	first, _, _ := retext.Parse("(a|b)*cd", extended, l)
	second, _, _ := retext.Parse("(a|b)*cd", extended, l)
	if len(first.Args) != 3 || len(second.Args) != 3 {
		t.Fatalf("the trees are %s and %s", show(first), show(second))
	}
	// Every list of the first tree is overwritten, and elements are added behind it.
	var spoil func(e *api.Re)
	spoil = func(e *api.Re) {
		for i := range e.Args {
			spoil(&e.Args[i])
		}
		_ = append(e.Args, set("x"))
		for i := range e.Args {
			e.Args[i].Op = 99
		}
	}
	spoil(&first.Args[0])
	want := cat(rep(0, -1, group(1, alt(set("a"), set("b")))), set("c"), set("d"))
	if !same(second, want) || !same(cat(first.Args[1:]...), cat(want.Args[1:]...)) || l.Weights[97] != before || len(l.Classes) != len(shifted().Classes) {
		t.Errorf("after a change of one tree the other one is %s, and the rest of the first one %s", show(second), show(first))
	}
}
