package retext_test

import (
	"testing"

	"texttools/api"
	"texttools/locale"
)

// checkSets checks patterns that are one bracket each, with both syntaxes.
func checkSets(t *testing.T, flags int, l api.Locale, want map[string]api.Re) {
	t.Helper()
	for pattern, e := range want {
		for _, syntax := range []int{0, extended} {
			checkTree(t, pattern, flags|syntax, l, e)
		}
	}
}

// checkSetErrors checks errors in brackets, with both syntaxes.
func checkSetErrors(t *testing.T, want map[string]failure) {
	t.Helper()
	checkErrors(t, 0, want)
	checkErrors(t, extended, want)
}

func TestP7_1Brackets(t *testing.T) {
	checkSets(t, 0, locale.Default(), map[string]api.Re{
		"[a]": set("a"), "[abc]": set("abc"), "[cba]": set("abc"), "[aab]": set("ab"), "[^a]": but("a"), "[^abc]": but("abc"), "[.]": set("."), "[*]": set("*"), "[(|)]": set("(|)"), "[$]": set("$"), "[{2}]": set("{2}"), `[\]`: set(`\`), `[\n]`: set(`\n`), `[\\]`: set(`\`), `[^\t]`: but(`\t`), "[\n]": set("\n"), "[\x00\xff]": set("\x00\xff"), "[é]": set("\xc3\xa9"),
		"[]]": set("]"), "[]a]": set("]a"), "[^]]": but("]"), "[^]a]": but("]a"), "[]-a]": set("]^_`a"), "[]-]": set("]-"), "[^]-a]": but("]^_`a"), "[][]": set("[]"), "[]^]": set("]^"), "[^]-]": but("]-"),
		"[^^]": but("^"), "[a^]": set("a^"), "[a^b]": set("ab^"), "[^a^]": but("a^"), "[^^^]": but("^"), "[]^a]": set("]^a"), "[-^]": set("-^"), "[^-]": but("-"), "[^-a]": but("-a"), "[^^-a]": but("^_`a"), "[X-^]": set("XYZ[\\]^"),
		"[[]": set("["), "[[a]": set("[a"), "[a[]": set("a["), "[^[]": but("["), "[[[]": set("["), "[[-]": set("[-"), "[[-a]": set("[\\]^_`a"), "[X-[]": set("XYZ["), "[X-[a]": set("XYZ[a"), "[[^]": set("[^"), `[[\]`: set(`[\`), "[[;]": set("[;"), "[[/]": set("[/"), "[X-[-]": set("XYZ[-"), "[X-[[]": set("XYZ["), "[[[a]": set("[a"),
	})
	checkTrees(t, extended, map[string]api.Re{
		"[[]]": cat(set("["), set("]")), "[a]b]": cat(set("a"), set("b"), set("]")), "[a][b]": cat(set("a"), set("b")), "[]]*": rep(0, -1, set("]")), "[)]|[(]": alt(set(")"), set("(")), "([|])": group(1, set("|")), "[a]{2}": rep(2, 2, set("a")), "[a]^": cat(set("a"), begin),
	})
	checkTrees(t, 0, map[string]api.Re{
		"[[]]": cat(set("["), set("]")), `[\(]`: set(`\(`), `\([\)]\)`: group(1, set(`\)`)), `[a]\{2\}`: rep(2, 2, set("a")), "[a]*": rep(0, -1, set("a")), "[a]$": cat(set("a"), end), "[$]": set("$"), "[a]^": cat(set("a"), set("^")), "[a]*[*]": cat(rep(0, -1, set("a")), set("*")),
	})
}

func TestP7_1BracketRanges(t *testing.T) {
	checkSets(t, 0, locale.Default(), map[string]api.Re{
		"[a-c]": set("abc"), "[a-a]": set("a"), "[a-b]": set("ab"), "[a-cx-z]": set("abcxyz"), "[a-cb-e]": set("abcde"), "[^a-c]": but("abc"), "[0-9a-f]": set("0123456789abcdef"), "[xa-c]": set("abcx"), "[a-cx]": set("abcx"), "[\x00-\x02]": set("\x00\x01\x02"), "[\xfe-\xff]": set("\xfe\xff"), "[\x7f-\x80]": set("\x7f\x80"), "[\x00-\xff]": but(""), "[^\x00-\xfe]": set("\xff"), "[^\x01-\xff]": set("\x00"),
		"[-]": set("-"), "[-a]": set("-a"), "[a-]": set("a-"), "[a-c-]": set("abc-"), "[a-c-e]": set("abc-e"), "[a-c-e-g]": set("abc-efg"), "[--]": set("-"), "[---]": set("-"), "[----]": set("-"), "[-----]": set("-"), "[--/]": set("-./"), "[+--]": set("+,-"), "[-a-c]": set("-abc"), "[a-c--]": set("abc-"), "[a-c---]": set("abc-"), "[a-c--0]": set("abc-./0"), "[a-c--/x]": set("abc-./x"), "[^--/]": but("-./"), "[^---]": but("-"), "[^a-]": but("a-"), "[--a]": set("-./0123456789:;<=>?@ABCDEFGHIJKLMNOPQRSTUVWXYZ[\\]^_`a"), "[,--a]": set(",-a"), "[!--]": set("!\"#$%&'()*+,-"), "[a-c-e-]": set("abc-e"), "[-a-]": set("-a"), "[--.-]": set("-."),
		"[.-0]": set("./0"), "[:-=]": set(":;<="), "[=->]": set("=>"), "[*-,]": set("*+,"), `[\-]`: set(`\-`), `[\-^]`: set(`\]^`), `[Z-\]`: set(`Z[\`),
	})
	for lo := range 256 {
		for _, hi := range []int{lo, lo + 1, lo + 7, 255} {
			if hi > 255 {
				continue
			}
			var list []byte
			for c := lo; c <= hi; c++ {
				list = append(list, byte(c))
			}
			first, last := string(list[:1]), string(list[len(list)-1:])
			checkSets(t, 0, locale.Default(), map[string]api.Re{"[[." + first + ".]-[." + last + ".]]": set(string(list))})
			if hi > lo {
				checkError(t, "[[."+last+".]-[."+first+".]]", extended, locale.Default(), api.ErrRange, 1)
				checkError(t, "[^[."+last+".]-[."+first+".]]", 0, locale.Default(), api.ErrRange, 2)
			}
		}
	}
}

func TestP7_1BracketSymbols(t *testing.T) {
	checkSets(t, 0, locale.Default(), map[string]api.Re{
		"[[.a.]]": set("a"), "[[.-.]]": set("-"), "[[.].]]": set("]"), "[[.[.]]": set("["), "[[.^.]]": set("^"), "[[...]]": set("."), "[[.=.]]": set("="), "[[.:.]]": set(":"), `[[.\.]]`: set(`\`), "[^[.^.]]": but("^"), "[[.^.]a]": set("^a"), "[a[.].]]": set("a]"), "[[.\n.]]": set("\n"),
		"[[.a.]-c]": set("abc"), "[a-[.c.]]": set("abc"), "[[.a.]-[.c.]]": set("abc"), "[[.a.]-]": set("a-"), "[[.-.]-/]": set("-./"), "[+-[.-.]]": set("+,-"), "[[.-.]-[.-.]]": set("-"), "[[.[.]-[.].]]": set(`[\]`), "[[.a.]-c-e]": set("abc-e"), "[a-c[.-.]e]": set("abc-e"), "[[.a.][.c.]]": set("ac"), "[x[.a.]-cy]": set("abcxy"), "[[.].]-a]": set("]^_`a"), "[[.-.]a]": set("-a"), "[a-c-[.e.]]": set("abc-e"),
		"[[=a=]]": set("a"), "[[=]=]]": set("]"), "[[===]]": set("="), "[[=[=]]": set("["), "[[=-=]]": set("-"), "[^[=^=]]": but("^"), "[[=a=]b]": set("ab"), "[b[=a=]]": set("ab"), "[[=a=]-]": set("a-"), "[[=a=]-c]": set("a-c"), "[[=a=]--/]": set("a-./"), "[[=a=]-c-e]": set("a-cde"), "[[=:=]]": set(":"), "[[=.=]]": set("."), "[[=a=][=b=]]": set("ab"), "[[=\n=]]": set("\n"), `[[=\=]]`: set(`\`),
	})
	checkSetErrors(t, map[string]failure{
		"[[.": syntax(3), "[[.a": syntax(4), "[[.a.": syntax(5), "[[.a.]": syntax(6), "[[..": syntax(4), "[[..]": syntax(4), "[[..]]": syntax(4), "[[...": syntax(5), "[[.ab.]]": syntax(4), "[[.a]]": syntax(4), "[[.a.a]]": syntax(5), "[[.a.x": syntax(5), "[[.].": syntax(5), "[[.]]]": syntax(4), "[[.a=]]": syntax(4), "[[.a:]]": syntax(4), "[[.-]]": syntax(4), "[x[.": syntax(4), "[x[.]": syntax(5), "[^[.": syntax(4), "[^[.a": syntax(5), "[[....]]": syntax(5), "[[.a..": syntax(5),
		"[a-[.": syntax(5), "[a-[.c": syntax(6), "[a-[.c.": syntax(7), "[a-[.c.]": syntax(8), "[a-[.c]": syntax(6), "[a-[.cd": syntax(6), "[[.a.]-": syntax(7), "[[.a.]-[": syntax(8), "[[.a.]-[.": syntax(9), "[[.a.]-c": syntax(8),
		"[[=": syntax(3), "[[=a": syntax(4), "[[=a=": syntax(5), "[[=a=]": syntax(6), "[[==": syntax(4), "[[==]": syntax(4), "[[==]]": syntax(4), "[[===": syntax(5), "[[=ab=]]": syntax(4), "[[=a]]": syntax(4), "[[=a=a": syntax(5), "[[=a.]]": syntax(4), "[[=]": syntax(4), "[[=]=": syntax(5), "[x[=": syntax(4), "[^[=": syntax(4), "[[====]]": syntax(5), "[[=a==": syntax(5), "[[=a=]-": syntax(7), "[[=a:=]]": syntax(4),
	})
}

func TestP7_1BracketClasses(t *testing.T) {
	l := locale.Default()
	digits, blank := "0123456789", " \t"
	checkSets(t, 0, l, map[string]api.Re{
		"[[:digit:]]": set(digits), "[[:blank:]]": set(blank), "[^[:digit:]]": but(digits), "[[:digit:]x]": set(digits + "x"), "[x[:digit:]]": set(digits + "x"), "[[:digit:][:blank:]]": set(digits + blank), "[[:digit:]-]": set(digits + "-"), "[[:digit:]-z]": set(digits + "-z"), "[[:digit:]--/]": set(digits + "-./"), "[[:digit:]---]": set(digits + "-"), "[-[:digit:]]": set(digits + "-"), "[a-c[:blank:]]": set("abc" + blank), "[[:digit:]a-c]": set(digits + "abc"), "[][:blank:]]": set("]" + blank), "[[[:blank:]]": set("[" + blank), "[:digit:]": set(":digt"), "[[:digit:]:]": set(digits + ":"), "[:]": set(":"), "[:a]": set(":a"), "[=a=]": set("=a"), "[.a.]": set(".a"),
	})
	for _, name := range []string{"alpha", "digit", "alnum", "upper", "lower", "xdigit", "blank", "space", "cntrl", "graph", "print", "punct"} {
		class, _ := locale.Class(l, name)
		for _, flags := range []int{0, extended} {
			checkTree(t, "[[:"+name+":]]", flags, l, set(bytesOf(class)))
		}
		checkError(t, "a[[:"+name+":]", extended, l, api.ErrSyntax, len(name)+6)
	}
	name := func(at int) failure { return failure{api.ErrName, at} }
	checkSetErrors(t, map[string]failure{
		"[[:foo:]]": name(1), "[[::]]": name(1), "[[:]:]]": name(1), "[[:Digit:]]": name(1), "[[:digit :]]": name(1), "[[: digit:]]": name(1), "[[:digi:]]": name(1), "[[:digits:]]": name(1), "[[:\n:]]": name(1), "[[:[:digit:]]": name(1), "[[:digit::]]": name(1), "[[:digit]:]]": name(1), "[[:a]b:]]": name(1), "[[:vowel:]]": name(1), "[a[:foo:]]": name(2), "[^[:foo:]]": name(2), "[[:digit:][:foo:]]": name(10), "[[:foo:][:bar:]]": name(1), "x[[:foo:]]": name(2), "[[:foo:]": name(1), "[[::]": name(1), "[][:foo:]]": name(2), "[[[:foo:]]": name(2), "[a-[:foo:]]": syntax(4), "[a-c[:foo:]]": name(4), "[-[:foo:]]": name(2), "[[:\x00\xff]-=.:]]": name(1), "[[:::]]": name(1), "[[:foo:]]**": name(1),
		"[[:": syntax(3), "[[:d": syntax(4), "[[:digit": syntax(8), "[[:digit:": syntax(9), "[[:digit]": syntax(9), "[[:digit]]": syntax(10), "[[:]]": syntax(5), "[[:]": syntax(4), "[[:digit: ]]": syntax(12), "[[:digit:]": syntax(10), "[[:foo": syntax(6), "[[:foo:": syntax(7), "[[:foo.]]": syntax(9), "[[:foo=]]**": syntax(11), "[x[:": syntax(4), "[^[:": syntax(4), "[[:a: ]": syntax(7),
	})
}

func TestP7_1BracketSyntaxErrors(t *testing.T) {
	checkSetErrors(t, map[string]failure{
		"[": syntax(1), "[^": syntax(2), "[]": syntax(2), "[^]": syntax(3), "[a": syntax(2), "[ab": syntax(3), "[^a": syntax(3), "[]a": syntax(3), "[^]a": syntax(4), "[-": syntax(2), "[a-": syntax(3), "[a-c": syntax(4), "[a-c-": syntax(5), "[a-c-e": syntax(6), "[--": syntax(3), "[---": syntax(4), "[[": syntax(2), "[a[": syntax(3), "[[a": syntax(3), "[a-[": syntax(4), "[^[": syntax(3), "[][": syntax(3), "[[[": syntax(3), "[a-z[": syntax(5), "a[": syntax(2), "a[b": syntax(3), "[]-": syntax(3), "[a]b[": syntax(5), `[\`: syntax(2),
		"[a-[:": syntax(4), "[a-[=": syntax(4), "[a-[:digit:]]": syntax(4), "[a-[=b=]]": syntax(4), "[a-[:]": syntax(4), "[--[:": syntax(4), "[z-[=a=]]": syntax(4), "[[.a.]-[:b:]]": syntax(8), "[^a-[:": syntax(5), "[a-c-e-[:": syntax(8), "[]-[:a:]]": syntax(4), "[--[=": syntax(4), "[[-[:": syntax(4),
	})
}

func TestP7_1BracketRangeErrors(t *testing.T) {
	wrong := func(at int) failure { return failure{api.ErrRange, at} }
	checkSetErrors(t, map[string]failure{
		"[z-a]": wrong(1), "[b-a]": wrong(1), "[^z-a]": wrong(2), "[az-a]": wrong(2), "[a-cz-a]": wrong(4), "[a--]": wrong(1), "[a--b]": wrong(1), "[a-c--,]": wrong(4), "[a-c-,-+]": wrong(5), "[z-a": wrong(1), "[z-ab": wrong(1), "[[.z.]-a]": wrong(1), "[z-[.a.]]": wrong(1), "[[.z.]-[.a.]]": wrong(1), "[x[.z.]-a]": wrong(2), "[[.z.]-a": wrong(1), "[z-[.a.]": wrong(1), "[]-[]": wrong(1), "[]-A]": wrong(1), "[^]-A]": wrong(2), "[a-[]": wrong(1), "[a-[b]": wrong(1), "[[-A]": wrong(1), `[a-\]`: wrong(1), `[\-A]`: wrong(1), "[\xff-\x00]": wrong(1), "[\x80-\x7f]": wrong(1), "[--,]": wrong(1), "[[:digit:]--,]": wrong(10), "[[=a=]--,]": wrong(6), "x[z-a]": wrong(2), "[a][z-a]": wrong(4), "[b-ad-c]": wrong(1), "[a-bd-c]": wrong(4), "[a-[[]": wrong(1), "[a-[-z]": wrong(1), "[a-Z]": wrong(1),
	})
}

func TestP7_1BracketsOfLocales(t *testing.T) {
	letters := "abcABC"
	checkSets(t, 0, caseless(), map[string]api.Re{
		"[a-c]": set(letters), "[A-C]": set(letters), "[a-C]": set(letters), "[A-c]": set(letters), "[a-A]": set("aA"), "[A-a]": set("aA"), "[[=a=]]": set("aA"), "[[=A=]b]": set("aAb"), "[a]": set("a"), "[[.a.]]": set("a"), "[[.a.]-[.B.]]": set("aAbB"), "[^a-c]": but(letters), "[[=a=][=1=]]": set("aA1"), "a": set("a"), "[[:digit:]]": set("0123456789"),
	})
	for _, flags := range []int{0, extended, allFlags} {
		checkError(t, "[b-A]", flags, caseless(), api.ErrRange, 1)
		checkError(t, "x[B-a]", flags, caseless(), api.ErrRange, 2)
		checkError(t, "[a-c]", flags, reversed(), api.ErrRange, 1)
		checkError(t, "[[:vowel:]]", flags, reversed(), api.ErrName, 1)
		checkError(t, "[[:vowel:]]", flags, broken(), api.ErrName, 1)
		checkError(t, "[c-a]", flags, broken(), api.ErrRange, 1)
		checkError(t, "[b-a]", flags, api.Locale{}, api.ErrRange, 1)
	}
	checkSets(t, 0, reversed(), map[string]api.Re{"[c-a]": set("abc"), "[a-a]": set("a"), "[z-]": set("z-"), "[/--]": set("-./"), "[a--]": set("-./0123456789:;<=>?@ABCDEFGHIJKLMNOPQRSTUVWXYZ[\\]^_`a"), "[a-[]": set("[\\]^_`a"), "[\xff-\x00]": but("")})
	checkSets(t, 0, shifted(), map[string]api.Re{"[[:vowel:]]": set("aeiou"), "[[:digit:]]": set("01"), "[[:x_1:]]": set("\x00\n\xff"), "[^[:x_1:]]": but("\x00\n\xff"), "[[:every:]]": but(""), "[[:none:]a]": set("a"), "[^[:none:]]": but(""), "[[:upper:][:none:]]": set("ABCDEFGHIJKLMNOPQRSTUVWXYZ"), "[[:vowel:]-]": set("aeiou-"), "[a-c[:digit:]]": set("abc01"), "[ab]": set("ab")})
	checkSets(t, 0, broken(), map[string]api.Re{"[a-c]": set("abc"), "[[:digit:]]": set("0123456789"), "[[=a=]]": set("a")})
	checkSets(t, fold, broken(), map[string]api.Re{"[a]": set("aA"), "a": set("aA"), "A": set("aA"), "1": set("1")})
	checkSets(t, fold, api.Locale{}, map[string]api.Re{"[a-c]": set(letters), "[[:digit:]]": set("0123456789")})
}

func TestP7_1BracketFlags(t *testing.T) {
	l := locale.Default()
	checkSets(t, fold, l, map[string]api.Re{
		"[a]": set("aA"), "[A]": set("aA"), "[aA]": set("aA"), "[a-c]": set("abcABC"), "[^a]": but("aA"), "[^a-cX]": but("abcABCxX"), "[1]": set("1"), "[[:upper:]]": set("ABCDEFGHIJKLMNOPQRSTUVWXYZabcdefghijklmnopqrstuvwxyz"), "[^[:lower:]]": but("ABCDEFGHIJKLMNOPQRSTUVWXYZabcdefghijklmnopqrstuvwxyz"), "[[=a=]]": set("aA"), "[[.Z.]]": set("zZ"), "[Z-\\]": set("zZ[\\"), "[^\n]": but("\n"), "[^x]": but("xX"), "[`-b]": set("`abAB"), "[\n]": set("\n"),
	})
	checkSets(t, lines, l, map[string]api.Re{
		"[a]": set("a"), "[^a]": but("a\n"), "[\n]": set("\n"), "[^\n]": but("\n"), "[[:space:]]": set("\t\n\v\f\r "), "[^[:space:]]": but("\t\n\v\f\r "), "[\x00-\xff]": but(""), "[^a-c]": but("abc\n"), "[^^]": but("^\n"), "[\t-\v]": set("\t\n\v"), "[^\x00-\x09\x0b-\xfe]": set("\xff"),
	})
	checkSets(t, fold|lines, l, map[string]api.Re{"[a]": set("aA"), "[^a]": but("aA\n"), "[\na]": set("\naA"), "[^\n]": but("\n"), "[^Q-R]": but("qrQR\n"), "[^[:alpha:]]": but("ABCDEFGHIJKLMNOPQRSTUVWXYZabcdefghijklmnopqrstuvwxyz\n")})
	// In this locale the forms are the neighbours: those of the bytes that are added do not count.
	checkSets(t, fold, shifted(), map[string]api.Re{"[c]": set("bcd"), "c": set("bcd"), "[^c]": but("bcd"), "[cg]": set("bcdfgh"), "[a-c]": set("`abcd"), "[\x00]": set("\xff\x00\x01"), "[\xff]": set("\xfe\xff\x00"), `\n`: set("\x09\x0a\x0b"), "[\t]": set("\x08\x09\x0a"), "[[:digit:]]": set("/012"), "[[:vowel:]]": set("`abdefhijnoptuv"), "[^[:none:]]": but("")})
	checkSets(t, fold|lines, shifted(), map[string]api.Re{"[^c]": but("bcd\n"), "[\t]": set("\x08\x09\x0a"), "\v": set("\n\v\f"), "[^\x0b]": but("\n\v\f")})
}

func TestP7_1EmptyBrackets(t *testing.T) {
	wrong := failure{api.ErrRange, 0}
	checkSetErrors(t, map[string]failure{"[^\x00-\xff]": wrong, "a[^\x00-\xff]*": {api.ErrRange, 1}, "[^\x80-\xff\x00-\x7f]": wrong, "[^\x00-ab-\xff]": wrong, "[^\x00-\xff]**": wrong, "[^\x00-\xff][": wrong, "[^\x00-\xff": syntax(5), "[a][^\x00-\xffa]": {api.ErrRange, 3}, "[^\x00-\xffa[:digit:]]": wrong})
	l := locale.Default()
	for flags := range 8 {
		if flags&lines != 0 {
			checkError(t, "x[^\x00-\x09\x0b-\xff]", flags, l, api.ErrRange, 1)
		} else {
			checkTree(t, "x[^\x00-\x09\x0b-\xff]", flags, l, map[bool]api.Re{false: cat(set("x"), set("\n")), true: cat(set("xX"), set("\n"))}[flags&fold != 0])
		}
		if flags&fold != 0 {
			checkError(t, "[^\x00-`b-\xff]", flags, l, api.ErrRange, 0)
		} else {
			checkTree(t, "[^\x00-`b-\xff]", flags, l, set("a"))
		}
		checkError(t, "[[:none:]]", flags, shifted(), api.ErrRange, 0)
		checkError(t, "[^[:every:]]", flags, shifted(), api.ErrRange, 0)
		checkTree(t, "[\x00-\xff]", flags, l, but(""))
	}
}
