package charset_test

import (
	"fmt"
	"strings"
	"testing"

	"texttools/api"
	"texttools/charset"
)

// members is a set by its second definition: whether each byte is in it.
type members [256]bool

func membersOf(set api.Charset) members {
	var in members
	for c := range in {
		in[c] = set.Bits[c/64]>>(c%64)&1 == 1
	}
	return in
}

func setOf(in members) api.Charset {
	var set api.Charset
	for c, is := range in {
		if is {
			set.Bits[c/64] += 1 << (c % 64)
		}
	}
	return set
}

// setWhere returns the set of the bytes that f accepts.
func setWhere(f func(c int) bool) api.Charset {
	var in members
	for c := range in {
		in[c] = f(c)
	}
	return setOf(in)
}

func words(a, b, c, d uint64) api.Charset {
	return api.Charset{Bits: [4]uint64{a, b, c, d}}
}

const (
	allOnes = 1<<64 - 1
	highest = 1 << 63
)

var (
	empty = api.Charset{}
	whole = words(allOnes, allOnes, allOnes, allOnes)
)

// borders contains the bytes at the borders of the words, and their neighbours.
var borders = []int{0, 1, 2, 62, 63, 64, 65, 66, 126, 127, 128, 129, 190, 191, 192, 193, 253, 254, 255}

// someSets returns sets of all kinds, and others whose bits follow no simple rule.
func someSets() []api.Charset {
	sets := []api.Charset{
		empty, whole,
		words(allOnes, 0, 0, 0), words(0, allOnes, 0, 0), words(0, 0, allOnes, 0), words(0, 0, 0, allOnes),
		words(highest, 0, 0, 0), words(0, highest, 0, 0), words(0, 0, highest, 0), words(0, 0, 0, highest),
		words(1, 0, 0, 0), words(0, 1, 0, 0), words(0, 0, 1, 0), words(0, 0, 0, 1),
		words(highest, highest, highest, highest), words(1, 1, 1, 1), words(1, highest, 1, highest), words(allOnes, 0, allOnes, 0),
		words(0, allOnes-1, highest-1, 1), words(1<<37, 1<<9, 1<<53, 1<<20), words(allOnes, allOnes, allOnes, highest-1),
		setWhere(func(c int) bool { return c%2 == 0 }), setWhere(func(c int) bool { return c%3 == 1 }), setWhere(func(c int) bool { return c/16%2 == 1 }),
		setWhere(func(c int) bool { return 'a' <= c && c <= 'z' }), setWhere(func(c int) bool { return '0' <= c && c <= '9' }),
		setWhere(func(c int) bool { return 60 <= c && c <= 130 }), setWhere(func(c int) bool { return c != 'x' }),
	}
	mixed := uint64(1)
	next := func() uint64 {
		mixed = mixed*6364136223846793005 + 1442695040888963407
		return mixed ^ mixed>>29
	}
	for range 12 {
		sets = append(sets, words(next(), next(), next(), next()), words(next()&next()&next(), next()&next()&next(), 0, next()|next()))
	}
	return sets
}

func allBytes() string {
	var list [256]byte
	for i := range list {
		list[i] = byte(i)
	}
	return string(list[:])
}

func TestP4_1Of(t *testing.T) {
	for s, want := range map[string]api.Charset{
		"": empty, "\x00": words(1, 0, 0, 0), "\x3f": words(highest, 0, 0, 0), "\x40": words(0, 1, 0, 0), "\x7f": words(0, highest, 0, 0),
		"\x80": words(0, 0, 1, 0), "\xbf": words(0, 0, highest, 0), "\xc0": words(0, 0, 0, 1), "\xff": words(0, 0, 0, highest),
		"a": words(0, 1<<33, 0, 0), "0": words(1<<48, 0, 0, 0), "abc": words(0, 7<<33, 0, 0), "cabc": words(0, 7<<33, 0, 0), "ccbbaa": words(0, 7<<33, 0, 0),
		"ä": words(0, 0, 1<<36, 1<<3), "\xff\x00\xff\x00": words(1, 0, 0, highest), "\x00\x40\x80\xc0\x00": words(1, 1, 1, 1), "\n\r": words(1<<10|1<<13, 0, 0, 0),
		allBytes(): whole, allBytes() + allBytes(): whole, allBytes()[1:]: words(allOnes-1, allOnes, allOnes, allOnes), allBytes()[:255]: words(allOnes, allOnes, allOnes, highest-1),
		strings.Repeat("a", 100000): words(0, 1<<33, 0, 0), strings.Repeat("ab\xff", 50000): words(0, 3<<33, 0, highest),
	} {
		if got := charset.Of(s); got != want {
			t.Errorf("Of(%.40q) = %x, want %x", s, got, want)
		}
	}
}

func TestP4_1OfPairs(t *testing.T) {
	for i := range 256 {
		for j := range 256 {
			want := setWhere(func(c int) bool { return c == i || c == j })
			if got := charset.Of(string([]byte{byte(i), byte(j)})); got != want {
				t.Fatalf("Of the bytes %d and %d is %x, want %x", i, j, got, want)
			}
		}
	}
}

func TestP4_1Range(t *testing.T) {
	for lo := range 256 {
		for hi := range 256 {
			want := setWhere(func(c int) bool { return lo <= c && c <= hi })
			if got := charset.Range(byte(lo), byte(hi)); got != want {
				t.Fatalf("Range(%d, %d) = %x, want %x", lo, hi, got, want)
			}
		}
	}
}

func TestP4_1RangeEdges(t *testing.T) {
	for _, c := range []struct {
		lo, hi byte
		want   api.Charset
	}{
		{0, 255, whole}, {255, 0, empty}, {1, 0, empty}, {255, 254, empty}, {'z', 'a', empty}, {0, 0, words(1, 0, 0, 0)}, {255, 255, words(0, 0, 0, highest)},
		{63, 64, words(highest, 1, 0, 0)}, {127, 128, words(0, highest, 1, 0)}, {191, 192, words(0, 0, highest, 1)},
		{64, 63, empty}, {128, 127, empty}, {192, 191, empty}, {0, 63, words(allOnes, 0, 0, 0)}, {64, 127, words(0, allOnes, 0, 0)},
		{128, 191, words(0, 0, allOnes, 0)}, {192, 255, words(0, 0, 0, allOnes)}, {63, 192, words(highest, allOnes, allOnes, 1)}, {'0', '9', words(1023<<48, 0, 0, 0)},
		{1, 254, words(allOnes-1, allOnes, allOnes, highest-1)}, {254, 255, words(0, 0, 0, 3<<62)},
	} {
		if got := charset.Range(c.lo, c.hi); got != c.want {
			t.Errorf("Range(%d, %d) = %x, want %x", c.lo, c.hi, got, c.want)
		}
	}
}

func TestP4_1Has(t *testing.T) {
	sets := someSets()
	for i := range 256 {
		sets = append(sets, setWhere(func(c int) bool { return c == i }), setWhere(func(c int) bool { return c != i }))
	}
	for _, set := range sets {
		for c, want := range membersOf(set) {
			if got := charset.Has(set, byte(c)); got != want {
				t.Fatalf("Has(%x, %d) = %t, want %t", set, c, got, want)
			}
		}
	}
}

func TestP4_2OfTwoSets(t *testing.T) {
	for _, f := range []struct {
		name string
		get  func(a, b api.Charset) api.Charset
		want func(a, b bool) bool
	}{
		{"Union", charset.Union, func(a, b bool) bool { return a || b }},
		{"Intersect", charset.Intersect, func(a, b bool) bool { return a && b }},
		{"Minus", charset.Minus, func(a, b bool) bool { return a && !b }},
	} {
		for _, a := range someSets() {
			for _, b := range someSets() {
				inA, inB := membersOf(a), membersOf(b)
				want := setWhere(func(c int) bool { return f.want(inA[c], inB[c]) })
				if got := f.get(a, b); got != want {
					t.Fatalf("%s(%x, %x) = %x, want %x", f.name, a, b, got, want)
				}
			}
		}
	}
}

func TestP4_2Examples(t *testing.T) {
	lower, digits, word := charset.Range('a', 'z'), charset.Range('0', '9'), charset.Of("a0_")
	for _, c := range []struct {
		name      string
		got, want api.Charset
	}{
		{"Union of letters and digits", charset.Union(lower, digits), charset.Of("0123456789abcdefghijklmnopqrstuvwxyz")},
		{"Union with itself", charset.Union(lower, lower), lower},
		{"Union with the empty set", charset.Union(empty, lower), lower},
		{"Union with the whole set", charset.Union(lower, whole), whole},
		{"Intersect of letters and digits", charset.Intersect(lower, digits), empty},
		{"Intersect", charset.Intersect(lower, word), charset.Of("a")},
		{"Intersect with itself", charset.Intersect(lower, lower), lower},
		{"Intersect with the empty set", charset.Intersect(lower, empty), empty},
		{"Intersect with the whole set", charset.Intersect(whole, lower), lower},
		{"Minus", charset.Minus(word, lower), charset.Of("0_")},
		{"Minus the other way round", charset.Minus(charset.Of("abc"), word), charset.Of("bc")},
		{"Minus of a set and itself", charset.Minus(lower, lower), empty},
		{"Minus of the whole set and itself", charset.Minus(whole, whole), empty},
		{"Minus of the empty set", charset.Minus(lower, empty), lower},
		{"Minus from the empty set", charset.Minus(empty, lower), empty},
		{"Minus of the whole set", charset.Minus(lower, whole), empty},
		{"Minus from the whole set", charset.Minus(whole, charset.Range(0, 254)), charset.Of("\xff")},
		{"Complement of the empty set", charset.Complement(empty), whole},
		{"Complement of the whole set", charset.Complement(whole), empty},
		{"Complement of one byte", charset.Complement(charset.Of("\x80")), words(allOnes, allOnes, allOnes-1, allOnes)},
	} {
		if c.got != c.want {
			t.Errorf("%s: %x, want %x", c.name, c.got, c.want)
		}
	}
}

func TestP4_2Complement(t *testing.T) {
	for _, a := range someSets() {
		in := membersOf(a)
		want := setWhere(func(c int) bool { return !in[c] })
		if got := charset.Complement(a); got != want {
			t.Errorf("Complement(%x) = %x, want %x", a, got, want)
		}
	}
}

func TestP4_3CountAndList(t *testing.T) {
	sets := someSets()
	for _, i := range borders {
		for _, j := range borders {
			sets = append(sets, setWhere(func(c int) bool { return c == i || c == j }), setWhere(func(c int) bool { return i <= c && c <= j }))
		}
	}
	for _, set := range sets {
		var want []byte
		for c, in := range membersOf(set) {
			if in {
				want = append(want, byte(c))
			}
		}
		if got := charset.List(set); got != string(want) {
			t.Errorf("List(%x) = %q, want %q", set, got, want)
		}
		if got := charset.Count(set); got != len(want) {
			t.Errorf("Count(%x) = %d, want %d", set, got, len(want))
		}
	}
}

func TestP4_3Examples(t *testing.T) {
	for _, c := range []struct {
		set   api.Charset
		count int
		list  string
	}{
		{empty, 0, ""}, {whole, 256, allBytes()}, {charset.Of("cabc"), 3, "abc"}, {charset.Range('z', 'a'), 0, ""}, {charset.Range('a', 'f'), 6, "abcdef"},
		{charset.Complement(empty), 256, allBytes()}, {charset.Complement(whole), 0, ""}, {words(0, 0, allOnes, 0), 64, allBytes()[128:192]},
		{words(highest, highest, highest, highest), 4, "\x3f\x7f\xbf\xff"}, {words(1, 1, 1, 1), 4, "\x00\x40\x80\xc0"},
		{words(highest, 0, 0, 0), 1, "\x3f"}, {words(0, highest, 0, 0), 1, "\x7f"}, {words(0, 0, highest, 0), 1, "\xbf"}, {words(0, 0, 0, highest), 1, "\xff"},
		{charset.Of("\xff\x00a\xff0\x80"), 5, "\x000a\x80\xff"}, {charset.Complement(charset.Of("\x00")), 255, allBytes()[1:]},
	} {
		if got := charset.Count(c.set); got != c.count {
			t.Errorf("Count(%x) = %d, want %d", c.set, got, c.count)
		}
		if got := charset.List(c.set); got != c.list {
			t.Errorf("List(%x) = %q, want %q", c.set, got, c.list)
		}
	}
}

func TestP4_4OfInvertsList(t *testing.T) {
	for _, a := range someSets() {
		if got := charset.Of(charset.List(a)); got != a {
			t.Errorf("Of(List(%x)) = %x", a, got)
		}
	}
	for i := range 256 {
		for j := range 256 {
			s := string([]byte{byte(i), byte(j)})
			switch {
			case i > j:
				s = s[1:] + s[:1]
			case i == j:
				s = s[1:]
			}
			if got := charset.List(charset.Of(s)); got != s {
				t.Fatalf("List(Of(%q)) = %q", s, got)
			}
		}
	}
}

// checkLaw reports the sets for which the sides of a law differ.
func checkLaw(t *testing.T, law string, left, right api.Charset, sets ...api.Charset) {
	t.Helper()
	if left != right {
		t.Fatalf("%s does not hold for %x: %x and %x", law, sets, left, right)
	}
}

func TestP4_4LawsOfOneSet(t *testing.T) {
	for _, a := range someSets() {
		not := charset.Complement(a)
		checkLaw(t, "the complement of the complement", charset.Complement(not), a, a)
		checkLaw(t, "a set and its complement have all bytes", charset.Union(a, not), whole, a)
		checkLaw(t, "a set and its complement have no byte in common", charset.Intersect(a, not), empty, a)
		checkLaw(t, "a set without itself", charset.Minus(a, a), empty, a)
		if got := charset.Count(a) + charset.Count(not); got != 256 {
			t.Errorf("%x and its complement have %d bytes", a, got)
		}
	}
}

func TestP4_4LawsOfTwoSets(t *testing.T) {
	for _, a := range someSets() {
		for _, b := range someSets() {
			union, both := charset.Union(a, b), charset.Intersect(a, b)
			notA, notB := charset.Complement(a), charset.Complement(b)
			checkLaw(t, "Union is commutative", union, charset.Union(b, a), a, b)
			checkLaw(t, "Intersect is commutative", both, charset.Intersect(b, a), a, b)
			checkLaw(t, "Complement makes Intersect of Union", charset.Complement(union), charset.Intersect(notA, notB), a, b)
			checkLaw(t, "Complement makes Union of Intersect", charset.Complement(both), charset.Union(notA, notB), a, b)
			checkLaw(t, "Minus is Intersect with the complement", charset.Minus(a, b), charset.Intersect(a, notB), a, b)
			if charset.Count(union)+charset.Count(both) != charset.Count(a)+charset.Count(b) {
				t.Fatalf("the counts of Union and Intersect of %x and %x do not add up to those of both", a, b)
			}
		}
	}
}

func TestP4_4LawsOfThreeSets(t *testing.T) {
	sets := someSets()
	for _, a := range sets {
		for _, b := range sets {
			for _, c := range sets {
				checkLaw(t, "Union is associative", charset.Union(charset.Union(a, b), c), charset.Union(a, charset.Union(b, c)), a, b, c)
				checkLaw(t, "Intersect is associative", charset.Intersect(charset.Intersect(a, b), c), charset.Intersect(a, charset.Intersect(b, c)), a, b, c)
				checkLaw(t, "Union is distributive", charset.Union(a, charset.Intersect(b, c)), charset.Intersect(charset.Union(a, b), charset.Union(a, c)), a, b, c)
				checkLaw(t, "Intersect is distributive", charset.Intersect(a, charset.Union(b, c)), charset.Union(charset.Intersect(a, b), charset.Intersect(a, c)), a, b, c)
			}
		}
	}
}

func ExampleList() {
	set := charset.Union(charset.Of("cabc"), charset.Range('0', '3'))
	fmt.Println(charset.List(set), charset.Count(set))
	// Output: 0123abc 7
}
