package locale_test

import (
	"strings"
	"testing"

	"texttools/api"
	"texttools/locale"
)

func checkClass(t *testing.T, l api.Locale, name string, want api.Charset, wantOK bool) {
	t.Helper()
	if got, ok := locale.Class(l, name); got != want || ok != wantOK {
		t.Errorf("Class(%s) = %x, %t; want %x, %t", name, got, ok, want, wantOK)
	}
}

// standard returns the standard classes by their definitions.
func standard() map[string]api.Charset {
	is := func(c, lo, hi byte) bool { return lo <= c && c <= hi }
	alpha := func(c byte) bool { return is(c, 'a', 'z') || is(c, 'A', 'Z') }
	digit := func(c byte) bool { return is(c, '0', '9') }
	return map[string]api.Charset{
		"alpha":  setWhere(alpha),
		"digit":  setWhere(digit),
		"alnum":  setWhere(func(c byte) bool { return alpha(c) || digit(c) }),
		"upper":  setWhere(func(c byte) bool { return is(c, 'A', 'Z') }),
		"lower":  setWhere(func(c byte) bool { return is(c, 'a', 'z') }),
		"xdigit": setWhere(func(c byte) bool { return digit(c) || is(c, 'A', 'F') || is(c, 'a', 'f') }),
		"blank":  setWhere(func(c byte) bool { return c == 32 || c == 9 }),
		"space":  setWhere(func(c byte) bool { return c == 32 || is(c, 9, 13) }),
		"cntrl":  setWhere(func(c byte) bool { return c <= 31 || c == 127 }),
		"graph":  setWhere(func(c byte) bool { return is(c, 33, 126) }),
		"print":  setWhere(func(c byte) bool { return is(c, 32, 126) }),
		"punct":  setWhere(func(c byte) bool { return is(c, 33, 126) && !alpha(c) && !digit(c) }),
	}
}

func TestP5_5StandardClasses(t *testing.T) {
	for localeName, l := range someLocales() {
		for name, want := range standard() {
			if localeName == "full" && name == "digit" {
				want = setOf("ab\xff")
			}
			checkClass(t, l, name, want, true)
		}
	}
	checkClass(t, locale.Default(), "punct", setOf("!\"#$%&'()*+,-./:;<=>?@[\\]^_`{|}~"), true)
	checkClass(t, locale.Default(), "blank", setOf(" \t"), true)
	checkClass(t, locale.Default(), "space", setOf(" \t\n\v\f\r"), true)
	checkClass(t, locale.Default(), "xdigit", setOf("0123456789abcdefABCDEF"), true)
}

func TestP5_5UnknownClasses(t *testing.T) {
	l := full()
	l.Classes = append(manyClasses(3), api.Class{Name: "vowel", Set: setOf("aeiou")})
	for _, name := range []string{
		"", "Alpha", "ALPHA", "alph", "alphaa", " alpha", "alpha ", "alpha\n", "[:alpha:]", "word", "ascii", "posix", "full", "class", "class3", "class00", "Vowel", "vowels", "vowe", "ch", "\x00", "\xff", strings.Repeat("a", 100000),
	} {
		checkClass(t, l, name, api.Charset{}, false)
		checkClass(t, locale.Default(), name, api.Charset{}, false)
	}
	checkClass(t, locale.Default(), "vowel", api.Charset{}, false)
	checkClass(t, api.Locale{Name: "x", Classes: l.Classes}, "vowel", api.Charset{}, false)
}

func TestP5_5ClassesOfTheLocale(t *testing.T) {
	l := plain()
	l.Classes = []api.Class{
		{Name: "vowel", Set: setOf("aeiou")}, {Name: "digit", Set: setOf("01")}, {Name: "punct"}, {Name: "every", Set: setOf(allBytes())}, {Name: "Alpha", Set: setOf("\xff")}, {Name: "plain", Set: setOf("p")}, {Name: "_", Set: setOf("_")},
	}
	for _, class := range l.Classes {
		checkClass(t, l, class.Name, class.Set, true)
	}
	// Neither the classes that are defined with digit nor the others change with it.
	for name, want := range standard() {
		if name != "digit" && name != "punct" {
			checkClass(t, l, name, want, true)
		}
	}
	checkClass(t, l, "consonant", api.Charset{}, false)
	for _, class := range full().Classes {
		checkClass(t, full(), class.Name, class.Set, true)
	}
	for name := range standard() {
		l.Classes = []api.Class{{Name: "other", Set: setOf("o")}, {Name: name, Set: setOf("\x00x\xff")}}
		checkClass(t, l, name, setOf("\x00x\xff"), true)
		checkClass(t, locale.Default(), name, standard()[name], true)
	}
}

// equivalent returns the set that Equivalent has to return for a valid locale.
func equivalent(l api.Locale, c byte) api.Charset {
	return setWhere(func(b byte) bool { return l.Weights[b] == l.Weights[c] })
}

func TestP5_6Equivalent(t *testing.T) {
	for name, l := range someLocales() {
		for c := range 256 {
			if got, want := locale.Equivalent(l, byte(c)), equivalent(l, byte(c)); got != want {
				t.Fatalf("%s: Equivalent(%d) = %x, want %x", name, c, got, want)
			}
		}
	}
	l := weighted(foldedWeight)
	l.Weights[0], l.Weights[255] = 65535, 65535
	for c, want := range map[byte]string{'a': "aA", 'A': "aA", 'z': "zZ", '0': "0", 0: "\x00\xff", 255: "\x00\xff", 1: "\x01", 254: "\xfe", '@': "@", '[': "["} {
		if got := locale.Equivalent(l, c); got != setOf(want) {
			t.Errorf("Equivalent(%d) = %x, want the bytes %q", c, got, want)
		}
	}
	if got := locale.Equivalent(weighted(func(int) int { return 5 }), 'x'); got != setOf(allBytes()) {
		t.Errorf("Equivalent = %x with equal weights of all bytes", got)
	}
}

func checkBetween(t *testing.T, l api.Locale, lo, hi byte) {
	t.Helper()
	want := setWhere(func(c byte) bool { return l.Weights[lo] <= l.Weights[c] && l.Weights[c] <= l.Weights[hi] })
	got, ok := locale.Between(l, lo, hi)
	if got != want || ok != (l.Weights[lo] <= l.Weights[hi]) {
		t.Fatalf("%s: Between(%d, %d) = %x, %t; want %x", l.Name, lo, hi, got, ok, want)
	}
}

// someBytes contains bytes at the ends of the standard classes, and at those of the alphabet of all bytes.
const someBytes = "\x00\x01\x09 /09:@ACZ[_`abz{\x7f\x80\x81\xfe\xff"

func TestP5_6Between(t *testing.T) {
	for _, l := range someLocales() {
		for i := range len(someBytes) {
			for j := range len(someBytes) {
				checkBetween(t, l, someBytes[i], someBytes[j])
			}
		}
	}
	l := weighted(func(c int) int { return c * 37 % 64 })
	for lo := range 256 {
		for hi := range 256 {
			checkBetween(t, l, byte(lo), byte(hi))
		}
	}
}

func TestP5_6BetweenEdges(t *testing.T) {
	folded := weighted(foldedWeight)
	folded.Weights[0] = 65535
	for _, c := range []struct {
		l      api.Locale
		lo, hi byte
		want   string
		ok     bool
	}{
		{folded, 'a', 'b', "AaBb", true}, {folded, 'A', 'B', "AaBb", true}, {folded, 'a', 'B', "AaBb", true}, {folded, 'a', 'A', "aA", true}, {folded, 'A', 'a', "aA", true}, {folded, 'c', 'c', "cC", true},
		{folded, 'b', 'A', "", false}, {folded, 'B', 'a', "", false}, {folded, 0, 255, "", false}, {folded, 255, 0, "\xff\x00", true}, {folded, 0, 0, "\x00", true}, {folded, 'Z', '{', "zZ{", true},
		{plain(), 0, 255, allBytes(), true}, {plain(), 255, 0, "", false}, {plain(), 'z', 'a', "", false}, {plain(), 'b', 'a', "", false}, {plain(), 'x', 'x', "x", true}, {plain(), 'a', 'c', "abc", true},
		{plain(), 0, 0, "\x00", true}, {plain(), 255, 255, "\xff", true}, {plain(), 254, 255, "\xfe\xff", true}, {plain(), 127, 128, "\x7f\x80", true}, {plain(), 1, 0, "", false},
		{weighted(func(c int) int { return 255 - c }), 'c', 'a', "abc", true}, {weighted(func(c int) int { return 255 - c }), 'a', 'c', "", false}, {weighted(func(c int) int { return 255 - c }), 255, 0, allBytes(), true},
		{weighted(func(int) int { return 9 }), 'z', 'a', allBytes(), true}, {weighted(func(c int) int { return c % 2 }), 1, 0, "", false},
		{with(api.Element{Text: "ab", Weight: 500}, api.Element{Text: "bb", Weight: 0}), 'a', 'c', "abc", true},
	} {
		if got, ok := locale.Between(c.l, c.lo, c.hi); got != setOf(c.want) || ok != c.ok {
			t.Errorf("Between(%d, %d) = %x, %t; want the bytes %q, %t", c.lo, c.hi, got, ok, c.want, c.ok)
		}
	}
}

func TestP5_7CasesOfTheDefault(t *testing.T) {
	l := locale.Default()
	for s, want := range map[string][2]string{
		"": {"", ""}, "a": {"a", "A"}, "A": {"a", "A"}, "z": {"z", "Z"}, "Z": {"z", "Z"}, "Hello, World 42!": {"hello, world 42!", "HELLO, WORLD 42!"}, "@[`{": {"@[`{", "@[`{"},
		"äÄ\xe4\xc4": {"äÄ\xe4\xc4", "äÄ\xe4\xc4"}, "\x00\xffaA": {"\x00\xffaa", "\x00\xffAA"}, "a\nB\n": {"a\nb\n", "A\nB\n"}, "ß\u0130\u01c5": {"ß\u0130\u01c5", "ß\u0130\u01c5"},
		"aBcDeFgHiJkLmNoPqRsTuVwXyZ":         {"abcdefghijklmnopqrstuvwxyz", "ABCDEFGHIJKLMNOPQRSTUVWXYZ"},
		strings.Repeat("aB\xff", 40000):      {strings.Repeat("ab\xff", 40000), strings.Repeat("AB\xff", 40000)},
		"\x01\x02\x1f !/09:@[\\]^_`{|}~\x7f": {"\x01\x02\x1f !/09:@[\\]^_`{|}~\x7f", "\x01\x02\x1f !/09:@[\\]^_`{|}~\x7f"},
	} {
		if lower, upper := locale.Lower(l, s), locale.Upper(l, s); lower != want[0] || upper != want[1] {
			t.Errorf("Lower(%.40q) = %.40q, Upper = %.40q; want %.40q", s, lower, upper, want)
		}
	}
}

func TestP5_7EveryByte(t *testing.T) {
	for name, l := range someLocales() {
		for c := range 256 {
			s := string([]byte{byte(c)})
			if lower, upper := locale.Lower(l, s), locale.Upper(l, s); lower != l.Lower[c:c+1] || upper != l.Upper[c:c+1] {
				t.Errorf("%s: Lower(%q) = %q, Upper = %q", name, s, lower, upper)
			}
		}
		if lower, upper := locale.Lower(l, allBytes()), locale.Upper(l, allBytes()); lower != l.Lower || upper != l.Upper {
			t.Errorf("%s: Lower and Upper of all bytes are %q and %q", name, lower, upper)
		}
	}
}

func TestP5_7CasesOfOtherLocales(t *testing.T) {
	l := plain()
	l.Lower = table(func(c byte) byte { return c + 1 })
	l.Upper = table(func(c byte) byte { return c &^ 1 })
	l.Elements = []api.Element{{Text: "ab", Weight: 1}}
	for s, want := range map[string][2]string{
		"": {"", ""}, "abc": {"bcd", "`bb"}, "ABC": {"BCD", "@BB"}, "\x00\xff": {"\x01\x00", "\x00\xfe"}, "abab": {"bcbc", "`b`b"}, "z9": {"{:", "z8"},
	} {
		if lower, upper := locale.Lower(l, s), locale.Upper(l, s); lower != want[0] || upper != want[1] {
			t.Errorf("Lower(%q) = %q, Upper = %q; want %q", s, lower, upper, want)
		}
	}
}

func TestP5_10ClassesOfWeights(t *testing.T) {
	for name, l := range someLocales() {
		var sets [256]api.Charset
		for c := range sets {
			sets[c] = locale.Equivalent(l, byte(c))
		}
		for a := range sets {
			if !has(sets[a], byte(a)) {
				t.Fatalf("%s: the byte %d is not equivalent to itself", name, a)
			}
			for b := range sets {
				if has(sets[a], byte(b)) != (sets[a] == sets[b]) || sets[a] != sets[b] && common(sets[a], sets[b]) != (api.Charset{}) {
					t.Fatalf("%s: the sets of %d and %d are %x and %x", name, a, b, sets[a], sets[b])
				}
			}
		}
		for i := range len(someBytes) {
			for j := range len(someBytes) {
				between, _ := locale.Between(l, someBytes[i], someBytes[j])
				for c, set := range sets {
					if both := common(set, between); both != set && both != (api.Charset{}) {
						t.Fatalf("%s: the set of %d lies partly in Between(%d, %d)", name, c, someBytes[i], someBytes[j])
					}
				}
			}
		}
	}
}

func TestP5_10RangesThatMeet(t *testing.T) {
	for name, l := range someLocales() {
		for i := range len(someBytes) {
			for j := range len(someBytes) {
				for k := range len(someBytes) {
					lo, mid, hi := someBytes[i], someBytes[j], someBytes[k]
					if l.Weights[lo] > l.Weights[mid] || l.Weights[mid] > l.Weights[hi] {
						continue
					}
					low, lowOK := locale.Between(l, lo, mid)
					high, highOK := locale.Between(l, mid, hi)
					whole, wholeOK := locale.Between(l, lo, hi)
					together := setWhere(func(c byte) bool { return has(low, c) || has(high, c) })
					if together != whole || !lowOK || !highOK || !wholeOK {
						t.Fatalf("%s: Between of %d, %d and %d", name, lo, mid, hi)
					}
				}
			}
		}
	}
}

func has(set api.Charset, c byte) bool { return set.Bits[c/64]>>(c%64)&1 == 1 }

func common(a, b api.Charset) api.Charset {
	for i := range a.Bits {
		a.Bits[i] &= b.Bits[i]
	}
	return a
}

func TestExamples(t *testing.T) {
	ch := locale.Default()
	ch.Elements = []api.Element{{Text: "ch", Weight: 500}}
	checkCompare(t, ch, "ch", "d", 1)
	checkCompare(t, ch, "ch", "cz", 1)
	checkCompare(t, ch, "c", "ch", -1)
	folded := locale.Default()
	folded.Weights['A'] = 97
	checkCompare(t, folded, "a", "A", 1)
	checkCompare(t, folded, "ab", "Aa", 1)
	if got := locale.Equivalent(folded, 'a'); got != setOf("aA") {
		t.Errorf("Equivalent(a) = %x", got)
	}
	if got, ok := locale.Between(folded, 'a', 'b'); got != setOf("Aab") || !ok {
		t.Errorf("Between(a, b) = %x, %t", got, ok)
	}
	punct, _ := locale.Class(locale.Default(), "punct")
	count := 0
	for c := range 256 {
		if has(punct, byte(c)) {
			count++
		}
	}
	if count != 32 {
		t.Errorf("punct has %d bytes", count)
	}
	checkClass(t, locale.Default(), "vowel", api.Charset{}, false)
}
