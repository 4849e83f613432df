package retext_test

import (
	"math/rand"
	"strings"
	"testing"

	"texttools/api"
	"texttools/locale"
	"texttools/retext"
)

// eachString calls visit for every string of count of the parts.
func eachString(parts []string, count int, visit func(s string)) {
	if count == 0 {
		visit("")
		return
	}
	for _, part := range parts {
		eachString(parts, count-1, func(rest string) { visit(part + rest) })
	}
}

// checkDefinition checks one result of Parse by the definition, and the consequences P7.3 for it.
func checkDefinition(t *testing.T, pattern string, flags int, l api.Locale) {
	t.Helper()
	got, err, at := retext.Parse(pattern, flags, l)
	want, wantErr, wantAt := defined(pattern, flags, l)
	if err != wantErr || at != wantAt || !same(got, want) {
		t.Fatalf("Parse(%q, %d, %s) = %.300s, %v, %d; want %.300s, %v, %d", pattern, flags, l.Name, show(got), err, at, show(want), wantErr, wantAt)
	}
	if err == api.OK {
		checkNormal(t, pattern, got)
	}
}

// checkNormal checks that a tree is normal, and that it is the tree of what Print returns.
func checkNormal(t *testing.T, pattern string, e api.Re) {
	t.Helper()
	if !isNormal(e) {
		t.Fatalf("the tree of %q is %s, which is not normal", pattern, show(e))
	}
	printed, err := retext.Print(e)
	if err == api.ErrLimit && printed == "" {
		return
	}
	again, parseErr, at := retext.Parse(printed, extended, locale.Default())
	if err != api.OK || parseErr != api.OK || at != 0 || !same(again, e) {
		t.Fatalf("%q has the tree %.300s, which is printed as %.300q (%v), which has the tree %.300s (%v, %d)", pattern, show(e), printed, err, show(again), parseErr, at)
	}
}

func split(s string) []string {
	return strings.Split(s, " ")
}

func TestP7_1ShortPatterns(t *testing.T) {
	l := locale.Default()
	for _, c := range []struct {
		flags, most int
		parts       []string
	}{
		{extended, 6, split(`a ( ) | * ^`)}, {extended, 5, split(`a ( ) | * $ \ 1`)}, {extended, 6, split(`a { } , 0 1`)}, {extended, 5, split(`a{ } , 2 6 5 1`)}, {extended, 4, split(`. [ ] ( ) * + ? { } | ^ $ \ a 1 ,`)}, {extended, 6, split(`( ) \1 \2 a |`)},
		{0, 6, split(`a \( \) * ^ $`)}, {0, 5, split(`a \ ( ) { } * ^`)}, {0, 6, split(`a \{ \} , 0 1`)}, {0, 5, split(`a\{ \} } 2 6 5 , \`)}, {0, 4, split(`. [ ] ( ) * + ? { } | ^ $ \ a 1 ,`)}, {0, 6, split(`\( \) \1 \2 a *`)},
	} {
		for count := range c.most + 1 {
			eachString(c.parts, count, func(s string) { checkDefinition(t, s, c.flags, l) })
		}
	}
}

func TestP7_1ShortBrackets(t *testing.T) {
	for _, c := range []struct {
		l     api.Locale
		flags int
		most  int
		parts []string
	}{
		{locale.Default(), extended, 5, split(`[ ] ^ - a : . =`)}, {locale.Default(), lines, 5, split(`[ ] ^ - a z \`)}, {reversed(), fold, 5, split(`[ ] - [. .] z a`)}, {shifted(), allFlags, 4, append(split("[: :] [= =] vowel none ] - a"), "\n")}, {caseless(), extended, 4, split(`[. .] [= =] ] - a B ^`)}, {broken(), fold, 4, split(`[: :] alpha vowel ] ^ - a C`)},
	} {
		for count := range c.most + 1 {
			eachString(c.parts, count, func(s string) {
				checkDefinition(t, "["+s, c.flags, c.l)
				checkDefinition(t, "["+s+"]", c.flags, c.l)
			})
		}
	}
}

// pieces has parts of patterns of both syntaxes, right ones and wrong ones.
var pieces = append(split(`a b A Z 0 1 9 . .* ^ $ * + ? | ( ) () \( \) { } \{ \} {2} {2,} {2,3} {3,2} {64} {65} {0,1} {01} \{2\} \{2,\} \{1,3\} \{3,1\} \{65\} , - : = [ ] [^ [a-c] [z-a] [^a] []a] [^]a] [a-] [--/] [[:digit:]] [[:vowel:]] [[:none:]] [[:foo:]] [[=a=]] [[.-.]] [[.a.]-c] [: :] [= =] [. .] \1 \2 \3 \9 \n \t \/ \\ \. \[ \] \* \^ \$ \| \+ \q (a) \(a\) (a|b) (a)* \(b*\)`), "\n", "\x00", "\xff", "[\x00-\xff]", "[^\x00-\xff]", "[^\x00-\x09\x0b-\xff]", " ")

func TestP7_1RandomPatterns(t *testing.T) {
	random := rand.New(rand.NewSource(7))
	locales := someLocales()
	for range 200000 {
		var pattern strings.Builder
		for range random.Intn(10) {
			pattern.WriteString(pieces[random.Intn(len(pieces))])
		}
		checkDefinition(t, pattern.String(), random.Intn(16)-8, locales[random.Intn(len(locales))])
	}
}

func TestP7_1RandomBytes(t *testing.T) {
	random := rand.New(rand.NewSource(8))
	locales := someLocales()
	for range 50000 {
		pattern := make([]byte, random.Intn(12))
		for i := range pattern {
			pattern[i] = byte(random.Intn(256))
			if random.Intn(2) == 0 {
				pattern[i] = `[]()^-$*\{}|,.=:12`[random.Intn(18)]
			}
		}
		checkDefinition(t, string(pattern), random.Intn(16), locales[random.Intn(len(locales))])
	}
}

// A grower makes random normal trees.
type grower struct {
	*rand.Rand
	groups int
	closed []int
}

// grow returns a tree whose operator is one of those, or ReSet.
func (g *grower) grow(depth int, ops ...int) api.Re {
	op := ops[g.Intn(len(ops))]
	switch {
	case op == api.ReEmpty || op == api.ReBegin || op == api.ReEnd:
		return api.Re{Op: op}
	case op == api.ReBack && len(g.closed) > 0:
		return back(g.closed[g.Intn(len(g.closed))])
	case depth <= 0:
	case op == api.ReCat:
		return cat(g.several(depth, api.ReSet, api.ReSet, api.ReRep, api.ReGroup, api.ReBegin, api.ReEnd, api.ReBack)...)
	case op == api.ReAlt:
		return alt(g.several(depth, api.ReSet, api.ReCat, api.ReRep, api.ReGroup, api.ReBegin, api.ReEnd, api.ReBack)...)
	case op == api.ReRep:
		lo := []int{0, 1, 2, g.Intn(65)}[g.Intn(4)]
		hi := []int{-1, lo, 64, lo + g.Intn(65-lo)}[g.Intn(4)]
		return rep(lo, hi, g.grow(depth-1, api.ReSet, api.ReGroup, api.ReBack))
	case op == api.ReGroup && g.groups < 9:
		g.groups++
		number := g.groups
		e := group(number, g.grow(depth-1, api.ReEmpty, api.ReSet, api.ReCat, api.ReCat, api.ReAlt, api.ReAlt, api.ReRep, api.ReGroup, api.ReBegin, api.ReBack))
		g.closed = append(g.closed, number)
		return e
	}
	return g.set()
}

func (g *grower) several(depth int, ops ...int) []api.Re {
	var list []api.Re
	for range 2 + g.Intn(4) {
		list = append(list, g.grow(depth-1, ops...))
	}
	return list
}

// set returns a set of some bytes, of special ones, of runs, or of all but some.
func (g *grower) set() api.Re {
	var list []byte
	for range 1 + g.Intn(4) {
		c := byte(g.Intn(256))
		if g.Intn(2) == 0 {
			c = `[]^-\.=:*(){}|$+?,/_`[g.Intn(20)]
		}
		for range []int{1, 1, 1, 2, 3, 4, 40}[g.Intn(7)] {
			list = append(list, c)
			c++
		}
	}
	switch g.Intn(8) {
	case 0:
		return but(string(list))
	case 1, 2, 3, 4:
		return set(string(list[:1]))
	}
	return set(string(list))
}

func TestP7_3RoundTripOfTrees(t *testing.T) {
	random := rand.New(rand.NewSource(9))
	printed := 0
	for range 60000 {
		g := grower{Rand: random}
		e := g.grow(1+random.Intn(8), api.ReEmpty, api.ReSet, api.ReCat, api.ReCat, api.ReAlt, api.ReAlt, api.ReRep, api.ReGroup, api.ReBegin, api.ReEnd)
		if !isNormal(e) {
			t.Fatalf("the test has made the tree %s", show(e))
		}
		checkNormal(t, "a random tree", e)
		if pattern, err := retext.Print(e); err == api.OK {
			printed++
			if again, err := retext.Print(e); err != api.OK || again != pattern {
				t.Fatalf("Print(%s) is %q and then %q", show(e), pattern, again)
			}
		} else if err != api.ErrLimit {
			t.Fatalf("Print(%s) = %v", show(e), err)
		}
	}
	if printed < 30000 {
		t.Errorf("only %d of the trees have a pattern", printed)
	}
}

func TestP7_3TreesOfBothSyntaxes(t *testing.T) {
	for _, l := range someLocales() {
		for flags := range 8 {
			for _, pattern := range []string{
				"", "a", "abc", "^a$", "a*b", "[a-c]*", "[^a]", ".", `\n`, `\/`, "a]", "**", "^*", "a**", "*a", "$a^", "[[:digit:]-]", "[]a^-]", "x[[.-.]]", "\x00\xff", "(a)", "(a|b)*", `(a)\1`, "((a)(b))", "()", `\(a\)`, `\(a\)\1*`, `\(^*a$\)`, `a\{2,3\}`, "a{2,3}", "a|b|c", "a+?", deep(7, "x|y(z)"), strings.Repeat("a", 256), strings.Repeat(`\(`, 9) + "a" + strings.Repeat(`\)`, 9),
			} {
				if e, err, _ := retext.Parse(pattern, flags, l); err == api.OK {
					checkNormal(t, pattern, e)
				}
			}
		}
	}
}

// checkAgreement checks that a pattern has the same tree in both syntaxes.
func checkAgreement(t *testing.T, pattern string, flags int, l api.Locale) {
	t.Helper()
	basic, basicErr, basicAt := retext.Parse(pattern, flags&^extended, l)
	other, otherErr, otherAt := retext.Parse(pattern, flags|extended, l)
	if basicErr != otherErr || basicAt != otherAt || !same(basic, other) || basicErr == api.OK && len(pattern) > 256 || basicErr != api.OK && len(pattern) <= 256 {
		t.Fatalf("the trees of %q with the flags %d are %.300s (%v, %d) and %.300s (%v, %d)", pattern, flags, show(basic), basicErr, basicAt, show(other), otherErr, otherAt)
	}
}

func TestP7_4PatternsWithoutSpecialBytes(t *testing.T) {
	random := rand.New(rand.NewSource(10))
	var ordinary []byte
	for c := range 256 {
		if !strings.Contains(special[true], string([]byte{byte(c)})) {
			ordinary = append(ordinary, byte(c))
		}
	}
	for i, l := range someLocales() {
		for flags := range 8 {
			checkAgreement(t, "", flags, l)
			for _, c := range ordinary {
				checkAgreement(t, string([]byte{c}), flags, l)
				checkAgreement(t, string([]byte{c, 'a', c}), flags, l)
			}
			for size := range 300 {
				pattern := make([]byte, size)
				for i := range pattern {
					pattern[i] = ordinary[random.Intn(len(ordinary))]
				}
				if i == 0 || size < 20 {
					checkAgreement(t, string(pattern), flags, l)
				}
			}
		}
	}
	checkTree(t, "a1 ,-:=<>_\x00\n\xff", extended, locale.Default(), word("a1 ,-:=<>_\x00\n\xff"))
	checkTree(t, "a1 ,-:=<>_\x00\n\xff", 0, locale.Default(), word("a1 ,-:=<>_\x00\n\xff"))
}

// otherCase returns s with all letters in the other case.
func otherCase(s string) string {
	list := []byte(s)
	for i, c := range list {
		if 'a' <= c && c <= 'z' || 'A' <= c && c <= 'Z' {
			list[i] = c ^ 0x20
		}
	}
	return string(list)
}

// checkCases checks that a pattern and the one in the other case have the same tree or error.
func checkCases(t *testing.T, pattern string, flags int) {
	t.Helper()
	one, oneErr, oneAt := retext.Parse(pattern, flags|fold, locale.Default())
	other, otherErr, otherAt := retext.Parse(otherCase(pattern), flags|fold, locale.Default())
	if oneErr != otherErr || oneAt != otherAt || !same(one, other) {
		t.Fatalf("the trees of %q and %q with the flags %d are %.300s (%v, %d) and %.300s (%v, %d)", pattern, otherCase(pattern), flags, show(one), oneErr, oneAt, show(other), otherErr, otherAt)
	}
}

func TestP7_4Cases(t *testing.T) {
	for _, flags := range []int{0, extended, lines, extended | lines} {
		for count := range 5 {
			eachString(split("a B z ( ) * | {2} . ^ $ 1 é"), count, func(s string) { checkCases(t, s, flags) })
		}
		for c := range 256 {
			if c != '\\' && c != '[' {
				checkCases(t, string([]byte{byte(c)}), flags)
				checkCases(t, "x"+string([]byte{byte(c)})+"Y", flags)
			}
		}
		checkCases(t, "abcdefghijklmnopqrstuvwxyzABCDEFGHIJKLMNOPQRSTUVWXYZ", flags)
	}
	checkTree(t, "aZ1", fold, locale.Default(), cat(set("aA"), set("zZ"), set("1")))
	checkTree(t, "Az1", fold|extended, locale.Default(), cat(set("aA"), set("zZ"), set("1")))
}
