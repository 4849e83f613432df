package retext_test

import (
	"strings"
	"testing"

	"texttools/api"
	"texttools/locale"
)

// syntax returns the error of a place that cannot follow the bytes before it.
func syntax(at int) failure {
	return failure{api.ErrSyntax, at}
}

func TestP7_1ExtendedSyntaxErrors(t *testing.T) {
	checkErrors(t, extended, map[string]failure{
		"*": syntax(0), "+": syntax(0), "?": syntax(0), "{": syntax(0), "{1}": syntax(0), "|": syntax(0), ")": syntax(0), "(": syntax(1), "[": syntax(1), `\`: syntax(1),
		"|a": syntax(0), "a|": syntax(2), "a||b": syntax(2), "a|b|": syntax(4), "(|a)": syntax(1), "(a|)": syntax(3), "(a||b)": syntax(3), "(|)": syntax(1), "()|": syntax(3), "a|)": syntax(2), "a|*": syntax(2), "a|{2}": syntax(2), "(a)||": syntax(4),
		"^*": syntax(1), "^+": syntax(1), "^?": syntax(1), "^{2}": syntax(1), "$*": syntax(1), "$+": syntax(1), "a$?": syntax(2), "a^{1,2}": syntax(2), "(^*a)": syntax(2), "^^*": syntax(2), "(^)$*": syntax(4),
		"a**": syntax(2), "a*+": syntax(2), "a+?": syntax(2), "a?*": syntax(2), "a*{2}": syntax(2), "a{2}*": syntax(4), "a{2}{3}": syntax(4), "a{2,}+": syntax(5), "a{2,3}?": syntax(6), "(a)**": syntax(4), "[a]++": syntax(4), ".*?": syntax(2), "ab**": syntax(3), "a??b": syntax(2),
		"(*a)": syntax(1), "(+)": syntax(1), "(?:a)": syntax(1), "({2})": syntax(1), "((*": syntax(2), "a(*)": syntax(2), "a|(?i)b": syntax(3),
		"((": syntax(2), "(a": syntax(2), "(a|b": syntax(4), "((a)": syntax(4), "a)": syntax(1), "(a))": syntax(3), "())": syntax(2), "a|b)": syntax(3), ")(": syntax(0), "(()": syntax(3), "(a)b)c(": syntax(4), "a*)": syntax(2), "^)": syntax(1), "(a|(b)": syntax(6), "()(": syntax(3), "(a*": syntax(3), "(^": syntax(2),
		`\q`: syntax(1), `\0`: syntax(1), `a\b`: syntax(2), `\é`: syntax(1), `\<`: syntax(1), `a\`: syntax(2), `(\`: syntax(2), `a|\`: syntax(3), `a*\`: syntax(3), `\\\`: syntax(3), `a{2}\d`: syntax(5), `\N`: syntax(1), `\T`: syntax(1), `\-`: syntax(1), `\,`: syntax(1),
	})
}

func TestP7_1ExtendedSuffixErrors(t *testing.T) {
	checkErrors(t, extended, map[string]failure{
		"a{": syntax(2), "a{1": syntax(3), "a{1,": syntax(4), "a{1,2": syntax(5), "a{12": syntax(4), "a{1,12": syntax(6), "a{}": syntax(2), "a{,}": syntax(2), "a{,3}": syntax(2), "a{x}": syntax(2), "a{1x}": syntax(3), "a{1,x}": syntax(4), "a{1,2x}": syntax(5), "a{1,2,3}": syntax(5), "a{1,2,": syntax(5), "a{1,,2}": syntax(4), "a{ 1}": syntax(2), "a{1 }": syntax(3), "a{1, 2}": syntax(4), "a{-1}": syntax(2), "a{+1}": syntax(2), "a{1;2}": syntax(3), "a{(": syntax(2), "a{1(": syntax(3), "a{1)": syntax(3), "a{1]": syntax(3), "a{1*": syntax(3), "a{{1}": syntax(2), "a{1{": syntax(3), `a{1\}`: syntax(3), `a{1,\}`: syntax(4), "a{\xff": syntax(2), "a{1:": syntax(3), "a{1/": syntax(3), "a{:": syntax(2), "a{/": syntax(2),
		"a{01}": syntax(3), "a{00}": syntax(3), "a{001}": syntax(3), "a{01": syntax(3), "a{0065}": syntax(3), "a{0,01}": syntax(5), "a{0,00}": syntax(5), "a{0,001": syntax(5), "a{09,8}": syntax(3), "a{0x1}": syntax(3), "a{02,1}": syntax(3),
		"a{65}": {api.ErrLimit, 2}, "a{65,}": {api.ErrLimit, 2}, "a{65,1}": {api.ErrLimit, 2}, "a{0,65}": {api.ErrLimit, 4}, "a{64,65}": {api.ErrLimit, 5}, "a{100}": {api.ErrLimit, 2}, "a{640}": {api.ErrLimit, 2}, "a{1,100": {api.ErrLimit, 4}, "a{65": {api.ErrLimit, 2}, "a{65x": {api.ErrLimit, 2}, "a{65,x": {api.ErrLimit, 2}, "a{1,65,": {api.ErrLimit, 4}, "a{65,01}": {api.ErrLimit, 2}, "(ab){65}": {api.ErrLimit, 5}, "a{65}{65}": {api.ErrLimit, 2}, "a{99,98}": {api.ErrLimit, 2}, "ab{2,65}": {api.ErrLimit, 5}, "a{65,66}": {api.ErrLimit, 2}, "a{64}b{65}": {api.ErrLimit, 7},
		"a{9223372036854775807}": {api.ErrLimit, 2}, "a{9223372036854775808}": {api.ErrLimit, 2}, "a{18446744073709551617}": {api.ErrLimit, 2}, "a{0,18446744073709551680}": {api.ErrLimit, 4}, "a{4294967297}": {api.ErrLimit, 2}, "a{5,36893488147419103233}": {api.ErrLimit, 4}, "a{1" + strings.Repeat("0", 253): {api.ErrLimit, 2}, "a{" + strings.Repeat("9", 252) + "}*": {api.ErrLimit, 2},
		"a{2,1}": {api.ErrRange, 4}, "a{1,0}": {api.ErrRange, 4}, "a{64,63}": {api.ErrRange, 5}, "a{64,0}": {api.ErrRange, 5}, "a{10,9}": {api.ErrRange, 5}, "a{2,1": {api.ErrRange, 4}, "a{2,1x": {api.ErrRange, 4}, "a{2,1,": {api.ErrRange, 4}, "a{2,1}{": {api.ErrRange, 4}, "ab(c){3,2}": {api.ErrRange, 8}, "a{20,3}": {api.ErrRange, 5}, "a{3,2})": {api.ErrRange, 4},
		// The number 0 ends before the second digit, which cannot follow it.
		"a{1,01}": {api.ErrRange, 4}, "a{1,00}": {api.ErrRange, 4}, "a{3,04": {api.ErrRange, 4}, "a{64,065}": {api.ErrRange, 5},
	})
}

func TestP7_1BasicSyntaxErrors(t *testing.T) {
	checkErrors(t, 0, map[string]failure{
		`\(`: syntax(2), `\)`: syntax(1), `\{`: syntax(1), `\}`: syntax(1), "[": syntax(1), `\`: syntax(1), `\(\)`: syntax(3), `\(\`: syntax(3), `\(\{`: syntax(3), `\(\}`: syntax(3), `\(a`: syntax(3), `\(a\`: syntax(4), `a\)`: syntax(2), `a\)b`: syntax(2), `\(a\)\)`: syntax(6), `\(\(a\)`: syntax(7), `\)\(`: syntax(1), `\(a\)\(`: syntax(7), `\(a\)\(\)`: syntax(8), `\(\(\)\)`: syntax(5), `\(^`: syntax(3), `\(*`: syntax(3), `\(a$`: syntax(4), `a$\)`: syntax(3), `$\)`: syntax(2), `^\)`: syntax(2), `*\)`: syntax(2), `\(a\)b\)`: syntax(7),
		`a\|b`: syntax(2), `a\+`: syntax(2), `a\?`: syntax(2), `\q`: syntax(1), `\0`: syntax(1), `a\`: syntax(2), `$\`: syntax(2), `^\`: syntax(2), `*\`: syntax(2), `a*\`: syntax(3), `a\}`: syntax(2), `\(\|\)`: syntax(3), `\-`: syntax(1), `\,`: syntax(1), `\<a`: syntax(1), `$\x`: syntax(2), `\(a$\x`: syntax(5),
		"a**": syntax(2), "***": syntax(2), "^***": syntax(3), "a***": syntax(2), `a*\{2\}`: syntax(3), `a\{2\}*`: syntax(6), `a\{2\}\{3\}`: syntax(7), `\(***\)`: syntax(4), `\(^***\)`: syntax(5), `\(a\)**`: syntax(6), `^\{2\}`: syntax(2), `\(^\{2\}\)`: syntax(4), `**\{2\}`: syntax(3), `*\{2\}*`: syntax(6), `^*\{2\}*`: syntax(7), `^^**`: syntax(3), "$**": syntax(2), `$\{2\}*`: syntax(6), `[a]**`: syntax(4), `\n**`: syntax(3), `a\(\{1\}\)`: syntax(4), `\(a\{1\}\{1\}\)`: syntax(9), ".**": syntax(2),
	})
}

func TestP7_1BasicSuffixErrors(t *testing.T) {
	checkErrors(t, 0, map[string]failure{
		`a\{`: syntax(3), `a\{1`: syntax(4), `a\{1,`: syntax(5), `a\{1,2`: syntax(6), `a\{1\`: syntax(5), `a\{1,\`: syntax(6), `a\{1,2\`: syntax(7), `a\{\}`: syntax(3), `a\{,\}`: syntax(3), `a\{,2\}`: syntax(3), `a\{x`: syntax(3), `a\{1}`: syntax(4), `a\{1,}`: syntax(5), `a\{1,2}`: syntax(6), `a\{1\)`: syntax(5), `a\{1\{`: syntax(5), `a\{1,\1`: syntax(6), `a\{1,2\x`: syntax(7), `a\{1,2,3\}`: syntax(6), `a\{1\\}`: syntax(5), `a\{1,2\]`: syntax(7), `a\{ 1\}`: syntax(3), `a\{1 \}`: syntax(4), `a\{-1\}`: syntax(3), `\(a\{1\)`: syntax(7), `*\{`: syntax(3), `a\{*`: syntax(3), `a\{1*`: syntax(4),
		`a\{01\}`: syntax(4), `a\{0,00\}`: syntax(6), `a\{00`: syntax(4), `a\{0065\}`: syntax(4), `a\{1,01\}`: {api.ErrRange, 5},
		`a\{65\}`: {api.ErrLimit, 3}, `a\{0,65\}`: {api.ErrLimit, 5}, `a\{65`: {api.ErrLimit, 3}, `a\{65}`: {api.ErrLimit, 3}, `a\{65\`: {api.ErrLimit, 3}, `a\{64,99999999999999999999\}`: {api.ErrLimit, 6}, `a\{1` + strings.Repeat("0", 252): {api.ErrLimit, 3}, `*\{65\}`: {api.ErrLimit, 3},
		`a\{2,1\}`: {api.ErrRange, 5}, `a\{2,1`: {api.ErrRange, 5}, `a\{2,1}`: {api.ErrRange, 5}, `a\{2,1\x`: {api.ErrRange, 5}, `\(a\)\{64,63\}`: {api.ErrRange, 10},
	})
}

func TestP7_1GroupErrors(t *testing.T) {
	limit := func(at int) failure { return failure{api.ErrLimit, at} }
	nine, nested := strings.Repeat("(a)", 9), strings.Repeat("(", 9)
	checkErrors(t, extended, map[string]failure{
		nine + "(a)": limit(27), nine + "()": limit(27), nine + "(": limit(27), nine + "(*": limit(27), nine + "b(": limit(28), nested + "(": limit(9), nested + "()": limit(9), nested + "a(b": limit(10), strings.Repeat("(", 256): limit(9), strings.Repeat("()", 128): limit(18), strings.Repeat("()", 9) + "|(a)": limit(19), nine + "((": limit(27), nine + "a{(": syntax(29), nine + `\1(a)`: limit(29), nine + "*(a)*": limit(28), strings.Repeat("(a|", 9) + "(": limit(27),
		nested: syntax(9), nine + ")": syntax(27), nested + "a" + strings.Repeat(")", 8): syntax(18), nested + "a" + strings.Repeat(")", 10): syntax(19), "*" + nine + "(": syntax(0), "a{65}" + nine + "(": limit(2),
	})
	basic, basicNested := strings.Repeat(`\(a\)`, 9), strings.Repeat(`\(`, 9)
	checkErrors(t, 0, map[string]failure{
		basic + `\(a\)`: limit(45), basic + `\(`: limit(45), basic + `\(\)`: limit(45), basic + `x\(`: limit(46), basicNested + `\(`: limit(18), basicNested + `a\(`: limit(19), strings.Repeat(`\(`, 128): limit(18), basic + `*\(b\)`: limit(46), basic + `$\(`: limit(46),
		basicNested: syntax(18), basic + `\)`: syntax(46), basic + `\`: syntax(46), basicNested + `\`: syntax(19), basicNested + `\)`: syntax(19),
	})
	checkTree(t, nine, extended, locale.Default(), cat(groups(9)...))
	checkTree(t, basic, 0, locale.Default(), cat(groups(9)...))
	checkTree(t, nine+`[(]\(`, extended, locale.Default(), cat(append(groups(9), set("("), set("("))...))
}

// groups returns so many groups of a.
func groups(count int) []api.Re {
	var list []api.Re
	for i := range count {
		list = append(list, group(i+1, set("a")))
	}
	return list
}

func TestP7_1ReferenceErrors(t *testing.T) {
	name := func(at int) failure { return failure{api.ErrName, at} }
	checkErrors(t, extended, map[string]failure{
		`\1`: name(0), `\9`: name(0), `a\1`: name(1), `(\1)`: name(1), `(a\1)`: name(2), `\1(a)`: name(0), `(a)\2`: name(3), `(a)\2(b)`: name(3), `((a)\1)`: name(4), `(a|\1)`: name(3), `((\1))`: name(2), `((\2))`: name(2), `(a)(\2)`: name(4), `(a)|\2`: name(4), `(a)\1\2`: name(5), `(a(b)\2\1)`: name(7), `(a)\9`: name(3), `(()\3())`: name(3), `a|\1`: name(2),
		`\1**`: name(0), `\1)`: name(0), `(\1`: name(1), `(a)\2{`: name(3), `\1\q`: name(0), `\1[z-a]`: name(0), `\12`: name(0), `(a)\3(b`: name(3), `*\1`: syntax(0), `)\1`: syntax(0), `[b-a]\1`: {api.ErrRange, 1}, `(a{\1)`: syntax(3),
	})
	checkErrors(t, 0, map[string]failure{
		`\1`: name(0), `a\1`: name(1), `\(\1\)`: name(2), `\(a\)\2`: name(5), `\1\(a\)`: name(0), `\(\(a\)\1\)`: name(7), `^\1`: name(1), `*\1`: name(1), `\(a\)\1\9`: name(7), `\1**`: name(0), `\1\)`: name(0), `\(\1`: name(2), `\(^\1\)`: name(3), `$\1`: name(1), `\1\{`: name(0),
	})
}

func TestP7_1FirstOfTwoErrors(t *testing.T) {
	checkErrors(t, extended, map[string]failure{
		"a{65}**": {api.ErrLimit, 2}, "a**{65}": syntax(2), "[z-a][[:foo:]]": {api.ErrRange, 1}, "[[:foo:]z-a]": {api.ErrName, 1}, "[z-a[:foo:]]": {api.ErrRange, 1}, "[z-a": {api.ErrRange, 1}, "[[:foo:]": {api.ErrName, 1}, "[[:foo:": syntax(7), "[z-": syntax(3), "[z": syntax(2), "[a[:foo:]*": {api.ErrName, 2}, "[z-a**": {api.ErrRange, 1}, `\1a{65}`: {api.ErrName, 0}, `a{65}\1`: {api.ErrLimit, 2}, "(a{2,1}": {api.ErrRange, 5}, "(a{2,1)": {api.ErrRange, 5}, "[[:foo:]**": {api.ErrName, 1}, "a|*[z-a]": syntax(2), "[b-a]|": {api.ErrRange, 1}, "()**[b-a]": syntax(3), "[b-a]{65}": {api.ErrRange, 1}, "[ab]{65}[b-a]": {api.ErrLimit, 5}, "(b)[c-b]": {api.ErrRange, 4}, "[z-[.a.]": {api.ErrRange, 1}, "[z-[.a.": syntax(7), "[z-[.a.x": syntax(7), "[z-[": syntax(4), "[z-[:": syntax(4), "[z-[=": syntax(4), "[z-[x": {api.ErrRange, 1}, "[z-[]": {api.ErrRange, 1}, "[z-[[": {api.ErrRange, 1}, "[z-[-": {api.ErrRange, 1},
	})
	checkErrors(t, 0, map[string]failure{
		`a\{65\}**`: {api.ErrLimit, 3}, `a**\{65\}`: syntax(2), `[z-a]\)`: {api.ErrRange, 1}, `\)[z-a]`: syntax(1), `\(a\{2,1\)`: {api.ErrRange, 7}, `\1\(`: {api.ErrName, 0}, `[[:foo:]\(`: {api.ErrName, 1}, `[z-a\)`: {api.ErrRange, 1}, `\(\)[z-a]`: syntax(3),
	})
	// An empty bracket is found after its end, all else in it before.
	for pattern, f := range map[string]failure{
		"[[:none:]]": {api.ErrRange, 0}, "a[[:none:]]*": {api.ErrRange, 1}, "[[:none:]": syntax(9), "[[:none:]]**": {api.ErrRange, 0}, "[[:none:][:foo:]]": {api.ErrName, 9}, "[[:none:]z-a]": {api.ErrRange, 9}, "[[:none:]]\\1": {api.ErrRange, 0}, "\\1[[:none:]]": {api.ErrName, 0}, "[[:none:][:none:]]": {api.ErrRange, 0}, "[[:none:]]]": {api.ErrRange, 0}, "[[:none:]][b-a]": {api.ErrRange, 0}, "[b-a][[:none:]]": {api.ErrRange, 1}, "x[^[:every:]]": {api.ErrRange, 1}, "[^[:every:]": syntax(11), "[[:none:]][": {api.ErrRange, 0},
	} {
		for flags := range 8 {
			checkError(t, pattern, flags, shifted(), f.err, f.at)
		}
	}
}
