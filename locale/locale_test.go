package locale_test

import (
	"math"
	"reflect"
	"slices"
	"strconv"
	"strings"
	"testing"

	"texttools/api"
	"texttools/locale"
)

// setWhere returns the set of the bytes that f accepts.
func setWhere(f func(c byte) bool) api.Charset {
	var set api.Charset
	for c := range 256 {
		if f(byte(c)) {
			set.Bits[c/64] += 1 << (c % 64)
		}
	}
	return set
}

// setOf returns the set of the bytes of s.
func setOf(s string) api.Charset {
	return setWhere(func(c byte) bool { return strings.IndexByte(s, c) >= 0 })
}

// table returns a string of 256 bytes, where byte c is f(c).
func table(f func(c byte) byte) string {
	list := make([]byte, 256)
	for c := range list {
		list[c] = f(byte(c))
	}
	return string(list)
}

func same(c byte) byte { return c }

func allBytes() string { return table(same) }

func weights(f func(c int) int) []int {
	list := make([]int, 256)
	for c := range list {
		list[c] = f(c)
	}
	return list
}

func number(c int) int { return c }

// plain returns a locale that has nothing but the order of the bytes.
func plain() api.Locale {
	return api.Locale{Name: "plain", Weights: weights(number), Lower: allBytes(), Upper: allBytes()}
}

// with returns the plain locale with these elements.
func with(elements ...api.Element) api.Locale {
	l := plain()
	l.Elements = elements
	return l
}

// weighted returns the plain locale with these weights.
func weighted(f func(c int) int) api.Locale {
	l := plain()
	l.Weights = weights(f)
	return l
}

func isCapital(c int) bool { return 'A' <= c && c <= 'Z' }

// foldedWeight gives capital letters the weights of small ones.
func foldedWeight(c int) int {
	if isCapital(c) {
		return c - 'A' + 'a'
	}
	return c
}

func manyClasses(count int) []api.Class {
	var classes []api.Class
	for i := range count {
		classes = append(classes, api.Class{Name: "class" + strconv.Itoa(i), Set: setOf(string([]byte{byte(i), byte(2 * i)}))})
	}
	return classes
}

// manyElements returns elements with different texts, of which some have equal weights.
func manyElements(count int) []api.Element {
	var elements []api.Element
	for i := range count {
		elements = append(elements, api.Element{Text: string([]byte{"aA\x00\xffbBcz"[i%8], "ab\xff\x00BcA-"[i/8%8]}), Weight: i * 31 % 101})
	}
	return elements
}

// full returns a valid locale that is as large as one can be, and that has nothing in common with the default one.
func full() api.Locale {
	return api.Locale{
		Name:     "Full_32_bytes_long_" + strings.Repeat("x", 13),
		Weights:  weights(func(c int) int { return 65535 - c/2*514 }),
		Lower:    table(func(c byte) byte { return c + 1 }),
		Upper:    table(func(c byte) byte { return c ^ 0xff }),
		Classes:  append(manyClasses(23), api.Class{Name: "digit", Set: setOf("ab\xff")}),
		Elements: manyElements(64),
	}
}

// someLocales returns valid locales of all kinds.
func someLocales() map[string]api.Locale {
	return map[string]api.Locale{
		"default":           locale.Default(),
		"folded":            weighted(foldedWeight),
		"reversed":          weighted(func(c int) int { return 255 - c }),
		"flat":              weighted(func(int) int { return 0 }),
		"flat and greatest": weighted(func(int) int { return 65535 }),
		"two weights":       weighted(func(c int) int { return c % 2 * 65535 }),
		"mixed":             weighted(func(c int) int { return c * 37 % 64 }),
		"ch":                with(api.Element{Text: "ch", Weight: 500}),
		"overlapping":       with(api.Element{Text: "ab", Weight: 98}, api.Element{Text: "bc", Weight: 65535}, api.Element{Text: "aa", Weight: 0}, api.Element{Text: "ca", Weight: 97}),
		"as its first byte": with(api.Element{Text: "aa", Weight: 'a'}, api.Element{Text: "bb", Weight: 'b'}, api.Element{Text: "ab", Weight: 'b'}),
		"high bytes":        with(api.Element{Text: "\xff\xff", Weight: 1}, api.Element{Text: "\x00\xff", Weight: 255}, api.Element{Text: "\x80a", Weight: 128}, api.Element{Text: "\x00\x00", Weight: 0}),
		"full":              full(),
	}
}

func TestP5_1Default(t *testing.T) {
	l := locale.Default()
	if l.Name != "posix" {
		t.Errorf("Name = %q", l.Name)
	}
	if len(l.Weights) != 256 || len(l.Lower) != 256 || len(l.Upper) != 256 {
		t.Fatalf("%d weights, Lower of %d bytes, Upper of %d bytes", len(l.Weights), len(l.Lower), len(l.Upper))
	}
	for c := range 256 {
		lower, upper := byte(c), byte(c)
		if isCapital(c) {
			lower += 32
		}
		if 'a' <= c && c <= 'z' {
			upper -= 32
		}
		if l.Weights[c] != c || l.Lower[c] != lower || l.Upper[c] != upper {
			t.Errorf("the byte %d has the weight %d and the forms %d and %d", c, l.Weights[c], l.Lower[c], l.Upper[c])
		}
	}
	if len(l.Classes) != 0 || len(l.Elements) != 0 {
		t.Errorf("Classes %v, Elements %v", l.Classes, l.Elements)
	}
	if err := locale.Check(l); err != api.OK {
		t.Errorf("Check(Default()) = %v", err)
	}
}

func TestP5_1DefaultIsNew(t *testing.T) {
	first := locale.Default()
	for c := range first.Weights {
		first.Weights[c] = 7
	}
	if second := locale.Default(); !slices.Equal(second.Weights, weights(number)) {
		t.Errorf("after a change of one result of Default, the next one has the weights %v", second.Weights)
	}
	if got := locale.Compare(api.Locale{}, "a", "b"); got != -1 {
		t.Errorf("after a change of a result of Default, Compare returns %d", got)
	}
}

func TestP5_2Valid(t *testing.T) {
	for name, l := range someLocales() {
		if err := locale.Check(l); err != api.OK {
			t.Errorf("%s: Check = %v", name, err)
		}
	}
	for name, change := range map[string]func(l *api.Locale){
		"a name of one letter":              func(l *api.Locale) { l.Name = "z" },
		"a name of an underscore":           func(l *api.Locale) { l.Name = "_" },
		"a name with all kinds of bytes":    func(l *api.Locale) { l.Name = "_azAZ09_" },
		"a name of 32 bytes":                func(l *api.Locale) { l.Name = strings.Repeat("N", 32) },
		"the weights 0 and 65535":           func(l *api.Locale) { l.Weights[0], l.Weights[255] = 65535, 0 },
		"empty lists":                       func(l *api.Locale) { l.Classes, l.Elements = []api.Class{}, []api.Element{} },
		"other forms":                       func(l *api.Locale) { l.Lower, l.Upper = strings.Repeat("\xff", 256), strings.Repeat("\x00", 256) },
		"24 classes":                        func(l *api.Locale) { l.Classes = manyClasses(24) },
		"64 elements":                       func(l *api.Locale) { l.Elements = manyElements(64) },
		"a class of a standard name":        func(l *api.Locale) { l.Classes = []api.Class{{Name: "alpha"}, {Name: "punct"}} },
		"a class of the name of the locale": func(l *api.Locale) { l.Classes = []api.Class{{Name: "plain"}} },
		"classes whose names begin alike":   func(l *api.Locale) { l.Classes = []api.Class{{Name: "ab"}, {Name: "a"}, {Name: "abc"}, {Name: "AB"}} },
		"a class of a name of 32 bytes": func(l *api.Locale) {
			l.Classes = []api.Class{{Name: strings.Repeat("c", 32)}}
		},
		"classes with equal sets": func(l *api.Locale) {
			l.Classes = []api.Class{{Name: "a", Set: setOf("x")}, {Name: "b", Set: setOf("x")}}
		},
		"elements of the weights 0 and 65535": func(l *api.Locale) { l.Elements = []api.Element{{Text: "ab", Weight: 0}, {Text: "ba", Weight: 65535}} },
		"elements of equal weights": func(l *api.Locale) {
			l.Elements = []api.Element{{Text: "ab", Weight: 9}, {Text: "ac", Weight: 9}, {Text: "cb", Weight: 9}}
		},
		"elements that differ by their case": func(l *api.Locale) {
			l.Elements = []api.Element{{Text: "ab"}, {Text: "Ab"}, {Text: "aB"}, {Text: "AB"}}
		},
		"elements of any bytes": func(l *api.Locale) {
			l.Elements = []api.Element{{Text: "\x00\x00"}, {Text: "\xff\xff"}, {Text: "\n "}, {Text: "ä"}}
		},
		"an element with the weight of a letter": func(l *api.Locale) { l.Elements = []api.Element{{Text: "aa", Weight: 'a'}} },
	} {
		l := plain()
		change(&l)
		if err := locale.Check(l); err != api.OK {
			t.Errorf("%s: Check = %v", name, err)
		}
	}
}

// A fault makes a locale invalid. Check looks for faults in the order of their stages; in one stage, the fault that was added first comes first.
type fault struct {
	name  string
	stage int
	err   api.Errno
	add   func(l *api.Locale)
}

func nameFaults() []fault {
	var faults []fault
	for _, name := range []string{
		"", "0", "9a", "a-b", "a b", " a", "a ", "a\n", "a.b", "a/", "a:", "@a", "a[", "a`", "a{", "ä", "a\x80", "\xff", "a\x00", "\x00", "é_", "+1", "a^",
		strings.Repeat("a", 33), strings.Repeat("_", 100000),
	} {
		add := func(l *api.Locale) { l.Name = name }
		if len(name) > 100 {
			faults = append(faults, fault{"a name of many bytes", 0, api.ErrName, add})
			continue
		}
		faults = append(faults, fault{"the name " + strconv.Quote(name), 0, api.ErrName, add})
	}
	return faults
}

func tableFaults() []fault {
	faults := []fault{
		{"no weights", 1, api.ErrRange, func(l *api.Locale) { l.Weights = nil }},
		{"255 weights", 1, api.ErrRange, func(l *api.Locale) { l.Weights = weights(number)[:255] }},
		{"257 weights", 1, api.ErrRange, func(l *api.Locale) { l.Weights = append(weights(number), 256) }},
		{"512 weights", 1, api.ErrRange, func(l *api.Locale) { l.Weights = append(weights(number), weights(number)...) }},
		{"no Lower", 2, api.ErrRange, func(l *api.Locale) { l.Lower = "" }},
		{"Lower of 255 bytes", 2, api.ErrRange, func(l *api.Locale) { l.Lower = allBytes()[1:] }},
		{"Lower of 257 bytes", 2, api.ErrRange, func(l *api.Locale) { l.Lower = allBytes() + "x" }},
		{"no Upper", 2, api.ErrRange, func(l *api.Locale) { l.Upper = "" }},
		{"Upper of 255 bytes", 2, api.ErrRange, func(l *api.Locale) { l.Upper = allBytes()[1:] }},
		{"Upper of 257 bytes", 2, api.ErrRange, func(l *api.Locale) { l.Upper = allBytes() + "x" }},
	}
	for _, at := range []int{0, 1, 'a', 128, 254, 255} {
		for _, weight := range []int{-1, 65536, math.MinInt, math.MaxInt, 1 << 32, -65535} {
			add := func(l *api.Locale) { l.Weights = weights(number); l.Weights[at] = weight }
			faults = append(faults, fault{"the weight " + strconv.Itoa(weight) + " at " + strconv.Itoa(at), 1, api.ErrRange, add})
		}
	}
	return faults
}

func addClass(names ...string) func(l *api.Locale) {
	return func(l *api.Locale) {
		for _, name := range names {
			l.Classes = append(l.Classes, api.Class{Name: name, Set: setOf(name)})
		}
	}
}

func addElement(elements ...api.Element) func(l *api.Locale) {
	return func(l *api.Locale) { l.Elements = append(l.Elements, elements...) }
}

func listFaults() []fault {
	return []fault{
		{"25 classes", 3, api.ErrLimit, func(l *api.Locale) { l.Classes = append(l.Classes, manyClasses(25)...) }},
		{"1000 classes", 3, api.ErrLimit, func(l *api.Locale) { l.Classes = append(l.Classes, manyClasses(1000)...) }},
		{"a class without a name", 4, api.ErrName, addClass("")},
		{"a class whose name begins with a digit", 4, api.ErrName, addClass("1a")},
		{"a class whose name has another byte", 4, api.ErrName, addClass("a-b")},
		{"a class with a name of 33 bytes", 4, api.ErrName, addClass(strings.Repeat("c", 33))},
		{"two classes with the same name", 4, api.ErrExists, addClass("vowel", "vowel")},
		{"two classes with the same standard name", 4, api.ErrExists, addClass("alpha", "alpha")},
		{"two classes with the same name and others between them", 4, api.ErrExists, addClass("one", "two", "three", "one")},
		{"two classes with the same invalid name", 4, api.ErrName, addClass("+", "+")},
		{"two classes with the same name and an invalid one between them", 4, api.ErrName, addClass("four", "+", "four")},
		{"two classes with the same name and an invalid one behind them", 4, api.ErrExists, addClass("five", "five", "+")},
		{"65 elements", 5, api.ErrLimit, func(l *api.Locale) {
			l.Elements = append(append(l.Elements, manyElements(64)...), api.Element{Text: "zz"})
		}},
		{"an element without a text", 6, api.ErrRange, addElement(api.Element{Weight: 1})},
		{"an element of one byte", 6, api.ErrRange, addElement(api.Element{Text: "x", Weight: 1})},
		{"an element of three bytes", 6, api.ErrRange, addElement(api.Element{Text: "xyz", Weight: 1})},
		{"an element of one character of three bytes", 6, api.ErrRange, addElement(api.Element{Text: "\u20ac", Weight: 1})},
		{"an element of the weight -1", 6, api.ErrRange, addElement(api.Element{Text: "xy", Weight: -1})},
		{"an element of the weight 65536", 6, api.ErrRange, addElement(api.Element{Text: "XY", Weight: 65536})},
		{"an element of the least weight", 6, api.ErrRange, addElement(api.Element{Text: "Xy", Weight: math.MinInt})},
		{"two elements with the same text", 6, api.ErrExists, addElement(api.Element{Text: "ch", Weight: 1}, api.Element{Text: "ch", Weight: 2})},
		{"two equal elements", 6, api.ErrExists, addElement(api.Element{Text: "ll", Weight: 1}, api.Element{Text: "ll", Weight: 1})},
		{"two elements with the same text and others between them", 6, api.ErrExists, addElement(api.Element{Text: "\xff\x00"}, api.Element{Text: "\x00\xff"}, api.Element{Text: "pq"}, api.Element{Text: "\xff\x00"})},
		{"two elements with the same text and an invalid one between them", 6, api.ErrRange, addElement(api.Element{Text: "rs"}, api.Element{Text: "r"}, api.Element{Text: "rs"})},
		{"two elements with the same text and an invalid one behind them", 6, api.ErrExists, addElement(api.Element{Text: "tu"}, api.Element{Text: "tu"}, api.Element{Text: "t"})},
		{"two elements with the same text, the second one without a valid weight", 6, api.ErrRange, addElement(api.Element{Text: "nj", Weight: 1}, api.Element{Text: "nj", Weight: -1})},
		{"two elements with the same text of three bytes", 6, api.ErrRange, addElement(api.Element{Text: "abc", Weight: 1}, api.Element{Text: "abc", Weight: 1})},
	}
}

func allFaults() []fault {
	return slices.Concat(nameFaults(), tableFaults(), listFaults())
}

func TestP5_2EachError(t *testing.T) {
	for _, f := range allFaults() {
		for name, l := range map[string]api.Locale{"plain": plain(), "default": locale.Default()} {
			f.add(&l)
			if err := locale.Check(l); err != f.err {
				t.Errorf("%s locale with %s: Check = %v, want %v", name, f.name, err, f.err)
			}
		}
	}
}

func TestP5_2ErrorsInOrder(t *testing.T) {
	for _, first := range allFaults() {
		for _, second := range allFaults() {
			l := plain()
			first.add(&l)
			second.add(&l)
			want := first
			if second.stage < first.stage {
				want = second
			}
			if err := locale.Check(l); err != want.err {
				t.Errorf("%s and %s: Check = %v, want %v", first.name, second.name, err, want.err)
			}
		}
	}
}

func TestP5_2ErrorsBehindValidParts(t *testing.T) {
	for _, f := range allFaults() {
		l := plain()
		l.Classes = manyClasses(5)
		l.Elements = []api.Element{{Text: "..", Weight: 3}, {Text: ".,", Weight: 3}}
		f.add(&l)
		if err := locale.Check(l); err != f.err {
			t.Errorf("%s behind valid classes and elements: Check = %v, want %v", f.name, err, f.err)
		}
	}
	atEnd := plain()
	atEnd.Classes = append(manyClasses(23), api.Class{Name: "class0"})
	if err := locale.Check(atEnd); err != api.ErrExists {
		t.Errorf("the last of 24 classes has the name of the first one: Check = %v", err)
	}
	atEnd = with(append(manyElements(63), manyElements(1)...)...)
	if err := locale.Check(atEnd); err != api.ErrExists {
		t.Errorf("the last of 64 elements has the text of the first one: Check = %v", err)
	}
	if err := locale.Check(api.Locale{}); err != api.ErrName {
		t.Errorf("Check(Locale{}) = %v", err)
	}
}

func TestP5_2EveryByteOfNames(t *testing.T) {
	for c := range 256 {
		letter := 'a' <= c && c <= 'z' || isCapital(c) || c == '_'
		for _, n := range []struct {
			name  string
			valid bool
		}{
			{string([]byte{byte(c)}), letter}, {string([]byte{byte(c), 'x'}), letter},
			{string([]byte{'x', byte(c)}), letter || '0' <= c && c <= '9'}, {string([]byte{'x', byte(c), 'x'}), letter || '0' <= c && c <= '9'},
		} {
			want := api.ErrName
			if n.valid {
				want = api.OK
			}
			l := plain()
			l.Name = n.name
			if err := locale.Check(l); err != want {
				t.Errorf("the name %q: Check = %v, want %v", n.name, err, want)
			}
			l = plain()
			l.Classes = []api.Class{{Name: n.name}}
			if err := locale.Check(l); err != want {
				t.Errorf("a class with the name %q: Check = %v, want %v", n.name, err, want)
			}
		}
	}
}

// A call is a call of a function of the package; its result is comparable by its form alone.
type call struct {
	name string
	of   func(l api.Locale) any
}

func setAndBool(set api.Charset, ok bool) any { return [2]any{set, ok} }

// someCalls calls every function but Check, and gives a different result for the full locale than for the default one.
func someCalls() []call {
	return []call{
		{"Split", func(l api.Locale) any { return locale.Split(l, "xaa\xff\x00chAA") }},
		{"Compare", func(l api.Locale) any { return locale.Compare(l, "a", "b") }},
		{"Compare with an element", func(l api.Locale) any { return locale.Compare(l, "ch", "d") }},
		{"Class", func(l api.Locale) any { return setAndBool(locale.Class(l, "class3")) }},
		{"Class of a standard name", func(l api.Locale) any { return setAndBool(locale.Class(l, "digit")) }},
		{"Equivalent", func(l api.Locale) any { return locale.Equivalent(l, 'a') }},
		{"Between", func(l api.Locale) any { return setAndBool(locale.Between(l, 'a', 'z')) }},
		{"Lower", func(l api.Locale) any { return locale.Lower(l, "ABC") }},
		{"Upper", func(l api.Locale) any { return locale.Upper(l, "abc") }},
	}
}

func TestP5_2InvalidIsDefault(t *testing.T) {
	check := func(name string, l api.Locale) {
		for _, c := range someCalls() {
			if got, want := c.of(l), c.of(locale.Default()); !reflect.DeepEqual(got, want) {
				t.Errorf("%s with %s: %v, want %v as for the default locale", c.name, name, got, want)
			}
		}
	}
	check("the zero value", api.Locale{})
	check("nothing but a name", api.Locale{Name: "posix"})
	for _, f := range allFaults() {
		l := full()
		l.Classes, l.Elements = l.Classes[:8], l.Elements[:8]
		f.add(&l)
		check(f.name, l)
	}
}

func TestP5_2ValidIsNotDefault(t *testing.T) {
	for _, c := range someCalls() {
		if got := c.of(full()); reflect.DeepEqual(got, c.of(locale.Default())) {
			t.Errorf("%s with the full locale: %v, as for the default locale", c.name, got)
		}
	}
}

func TestP5_2ArgumentsAreUnchanged(t *testing.T) {
	spare := func() api.Locale {
		l := full()
		l.Weights = append(l.Weights, 1, 2, 3)[:256]
		l.Classes = append(l.Classes, manyClasses(9)...)[:24]
		l.Elements = append(l.Elements, manyElements(9)...)[:64]
		return l
	}
	l, before := spare(), spare()
	for _, c := range someCalls() {
		c.of(l)
	}
	l.Weights, before.Weights = l.Weights[:259], before.Weights[:259]
	l.Classes, before.Classes = l.Classes[:33], before.Classes[:33]
	l.Elements, before.Elements = l.Elements[:73], before.Elements[:73]
	if !reflect.DeepEqual(l, before) {
		t.Errorf("a call changed its argument to %v", l)
	}
}
