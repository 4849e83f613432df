package locale_test

import (
	"cmp"
	"slices"
	"strings"
	"testing"

	"texttools/api"
	"texttools/locale"
)

// shortStrings returns all strings of at most length bytes of the alphabet.
func shortStrings(alphabet string, length int) []string {
	list := []string{""}
	if length == 0 {
		return list
	}
	for _, rest := range shortStrings(alphabet, length-1) {
		for i := range len(alphabet) {
			list = append(list, alphabet[i:i+1]+rest)
		}
	}
	return list
}

// divided returns the collating elements of s and their weights by the definition, which looks up the next two bytes among all texts.
func divided(l api.Locale, s string) ([]string, []int) {
	texts := map[string]int{}
	for _, e := range l.Elements {
		texts[e.Text] = e.Weight
	}
	var elements []string
	var list []int
	for at := 0; at < len(s); {
		next := s[at:min(at+2, len(s))]
		weight, found := texts[next]
		if !found {
			next, weight = s[at:at+1], l.Weights[s[at]]
		}
		elements, list = append(elements, next), append(list, weight)
		at += len(next)
	}
	return elements, list
}

// compared returns what Compare has to return for two strings with these weights.
func compared(a, b string, weightsOfA, weightsOfB []int) int {
	if order := slices.Compare(weightsOfA, weightsOfB); order != 0 {
		return order
	}
	return strings.Compare(a, b)
}

func TestP5_3Split(t *testing.T) {
	l := with(api.Element{Text: "ch", Weight: 500}, api.Element{Text: "hh", Weight: 1}, api.Element{Text: "aa", Weight: 2}, api.Element{Text: "\xff\x00", Weight: 3}, api.Element{Text: "\x00\xff", Weight: 4})
	for s, want := range map[string][]string{
		"": nil, "c": {"c"}, "h": {"h"}, "ch": {"ch"}, "hc": {"h", "c"}, "echh": {"e", "ch", "h"}, "chh": {"ch", "h"}, "hhh": {"hh", "h"}, "hhhh": {"hh", "hh"}, "hch": {"h", "ch"},
		"cch": {"c", "ch"}, "chc": {"ch", "c"}, "chch": {"ch", "ch"}, "chhh": {"ch", "hh"}, "chhhh": {"ch", "hh", "h"}, "chhch": {"ch", "h", "ch"}, "cc": {"c", "c"},
		"aaa": {"aa", "a"}, "aaaa": {"aa", "aa"}, "baab": {"b", "aa", "b"}, "abaa": {"a", "b", "aa"}, "xch": {"x", "ch"}, "xc": {"x", "c"}, "chx": {"ch", "x"},
		"c h": {"c", " ", "h"}, "Ch": {"C", "h"}, "cH": {"c", "H"}, "c\nh": {"c", "\n", "h"}, "\xff\x00\xff": {"\xff\x00", "\xff"}, "\x00\xff\x00": {"\x00\xff", "\x00"}, "\xff\xff\x00\x00": {"\xff", "\xff\x00", "\x00"},
		"ä": {"\xc3", "\xa4"}, "\x80\xff": {"\x80", "\xff"},
	} {
		if got := locale.Split(l, s); !slices.Equal(got, want) {
			t.Errorf("Split(%q) = %q, want %q", s, got, want)
		}
	}
	if got := locale.Split(with(api.Element{Text: "ch", Weight: 500}), "echh"); !slices.Equal(got, []string{"e", "ch", "h"}) {
		t.Errorf("Split(echh) = %q", got)
	}
}

func TestP5_3SplitByDefinition(t *testing.T) {
	for name, l := range someLocales() {
		for _, s := range append(shortStrings("abc", 5), shortStrings("aA\x00\xff-", 4)...) {
			want, _ := divided(l, s)
			if got := locale.Split(l, s); !slices.Equal(got, want) {
				t.Errorf("%s: Split(%q) = %q, want %q", name, s, got, want)
			}
		}
	}
}

// TestP5_3SplitAtEveryElement takes the last of many elements as well as the first one.
func TestP5_3SplitAtEveryElement(t *testing.T) {
	l := full()
	for _, e := range l.Elements {
		if got, want := locale.Split(l, "."+e.Text+"."), []string{".", e.Text, "."}; !slices.Equal(got, want) {
			t.Errorf("Split = %q, want %q", got, want)
		}
	}
}

func TestP5_3SplitOfLongStrings(t *testing.T) {
	l := with(api.Element{Text: "ch", Weight: 500})
	got := locale.Split(l, strings.Repeat("ch", 50000)+"c")
	if len(got) != 50001 || got[0] != "ch" || got[49999] != "ch" || got[50000] != "c" {
		t.Errorf("%d elements", len(got))
	}
	if got := locale.Split(locale.Default(), strings.Repeat("x", 100000)); len(got) != 100000 || got[99999] != "x" {
		t.Errorf("%d elements", len(got))
	}
}

func TestP5_3SplitIsNew(t *testing.T) {
	first, second := locale.Split(plain(), "ab"), locale.Split(plain(), "ab")
	first[0] = "x"
	if second[0] != "a" {
		t.Errorf("two results of Split share memory: %q", second)
	}
}

func checkCompare(t *testing.T, l api.Locale, a, b string, want int) {
	t.Helper()
	if got := locale.Compare(l, a, b); got != want {
		t.Errorf("Compare(%.40q, %.40q) = %d, want %d", a, b, got, want)
	}
	if got := locale.Compare(l, b, a); got != -want {
		t.Errorf("Compare(%.40q, %.40q) = %d, want %d", b, a, got, -want)
	}
}

type comparison struct {
	a, b string
	want int
}

func TestP5_4CompareWeights(t *testing.T) {
	l := weighted(foldedWeight)
	l.Weights['z'], l.Weights['0'] = 0, 65535
	for _, c := range []comparison{
		{"", "", 0}, {"", "a", -1}, {"", "\x00", -1}, {"", "z", -1}, {"a", "a", 0}, {"a", "b", -1}, {"b", "a", 1}, {"ab", "a", 1}, {"ab", "b", -1}, {"abc", "abd", -1},
		{"z", "a", -1}, {"z", "\x01", -1}, {"z", "\x00", 1}, {"az", "aa", -1}, {"0", "\xff", 1}, {"0", "a", 1}, {"\xff", "\x7f", 1}, {"\x80", "\x7f", 1}, {"\x80", "\xff", -1}, {"ä", "z", 1},
		{"a", "A", 1}, {"A", "a", -1}, {"ab", "Aa", 1}, {"aB", "Ab", 1}, {"Ab", "aB", -1}, {"ab", "AB", 1}, {"aB", "ab", -1}, {"A", "ab", -1}, {"a", "AB", -1}, {"Ab", "a", 1}, {"aA", "Aaa", -1},
		{"Z", "z", 1}, {"bA", "ab", 1}, {"Aab", "aAa", 1}, {"aa", "Ab", -1}, {"a\x00", "A", 1}, {"A\x00", "a", 1}, {"\xff\xff", "\xff", 1}, {"\xff\xfe", "\xff\xff", -1},
	} {
		checkCompare(t, l, c.a, c.b, c.want)
	}
}

func TestP5_4CompareElements(t *testing.T) {
	l := with(api.Element{Text: "ch", Weight: 500}, api.Element{Text: "aa", Weight: 'a'}, api.Element{Text: "ba", Weight: 0}, api.Element{Text: "hh", Weight: 'c'})
	for _, c := range []comparison{
		{"ch", "d", 1}, {"ch", "cz", 1}, {"c", "ch", -1}, {"ch", "ch", 0}, {"ch", "\xff", 1}, {"chh", "ch", 1}, {"cch", "ch", -1}, {"cch", "cd", 1}, {"c", "cc", -1}, {"chc", "chd", -1},
		{"aa", "a", 1}, {"aa", "b", -1}, {"aaa", "ab", -1}, {"aaa", "aaaa", -1}, {"aab", "ab", -1}, {"aab", "aaa", 1}, {"a", "aab", -1}, {"aax", "ax", -1}, {"ba", "a", -1}, {"ba", "\x00", 1}, {"ba", "", 1}, {"ba", "bb", -1},
		{"b", "ba", 1}, {"aba", "ab", -1}, {"aba", "a", 1}, {"hh", "c", 1}, {"hh", "h", -1}, {"hhh", "hh", 1}, {"c", "hhh", -1}, {"hhch", "cch", 1}, {"chhh", "chc", 1}, {"C", "ch", -1},
	} {
		checkCompare(t, l, c.a, c.b, c.want)
	}
	light := with(api.Element{Text: "zz", Weight: 0}, api.Element{Text: "yy", Weight: 65535}, api.Element{Text: "xx", Weight: 65534})
	for _, c := range []comparison{{"zz", "\x00", 1}, {"zz", "\x01", -1}, {"zz", "z", -1}, {"yy", "xx", 1}, {"xx", "\xff", 1}, {"zza", "zzb", -1}, {"yyzz", "yy", 1}} {
		checkCompare(t, light, c.a, c.b, c.want)
	}
}

func TestP5_4CompareLongStrings(t *testing.T) {
	l := with(api.Element{Text: "ch", Weight: 500})
	long := strings.Repeat("chx", 30000)
	for _, c := range []comparison{
		{long, long, 0}, {long + "a", long + "b", -1}, {long, long + "\x00", -1}, {long + "ch", long + "c", 1}, {"a" + long, long, -1}, {long + "ch" + long, long + "d" + long, 1},
	} {
		checkCompare(t, l, c.a, c.b, c.want)
	}
}

func TestP5_4CompareByDefinition(t *testing.T) {
	for name, l := range someLocales() {
		for _, list := range [][]string{shortStrings("abc", 4), shortStrings("aA\x00\xff-", 3)} {
			weightsOf := map[string][]int{}
			for _, s := range list {
				_, weightsOf[s] = divided(l, s)
			}
			for _, a := range list {
				for _, b := range list {
					if got, want := locale.Compare(l, a, b), compared(a, b, weightsOf[a], weightsOf[b]); got != want {
						t.Fatalf("%s: Compare(%q, %q) = %d, want %d", name, a, b, got, want)
					}
				}
			}
		}
	}
}

// orders returns Compare of every pair of strings, so that the laws need not compare them anew.
func orders(l api.Locale, list []string) [][]int {
	table := make([][]int, len(list))
	for i, a := range list {
		for _, b := range list {
			table[i] = append(table[i], locale.Compare(l, a, b))
		}
	}
	return table
}

func TestP5_8TotalOrder(t *testing.T) {
	for name, l := range someLocales() {
		for _, list := range [][]string{shortStrings("abc", 4), append(shortStrings("bA\x00\xff", 3), "chch", "c", "ch", "cch", "chc")} {
			order := orders(l, list)
			for i, a := range list {
				for j, b := range list {
					if (order[i][j] == 0) != (a == b) {
						t.Fatalf("%s: Compare(%q, %q) = %d", name, a, b, order[i][j])
					}
					if order[i][j] != -order[j][i] || order[i][j] < -1 || order[i][j] > 1 {
						t.Fatalf("%s: Compare of %q and %q is %d and %d", name, a, b, order[i][j], order[j][i])
					}
					for k, c := range list {
						if order[i][j] < 0 && order[j][k] < 0 && order[i][k] >= 0 {
							t.Fatalf("%s: %q comes before %q and %q before %q, but Compare(%q, %q) = %d", name, a, b, b, c, a, c, order[i][k])
						}
					}
				}
			}
		}
	}
}

func TestP5_9Division(t *testing.T) {
	for name, l := range someLocales() {
		for _, s := range append(append(shortStrings("abch", 4), shortStrings("aA\x00\xff\x80", 4)...), allBytes(), strings.Repeat("chaab\xff\x00", 1000)) {
			elements := locale.Split(l, s)
			if got := strings.Join(elements, ""); got != s {
				t.Errorf("%s: the elements %.40q of %.40q are together %.40q", name, elements, s, got)
			}
			for _, e := range elements {
				if len(e) != 1 && len(e) != 2 {
					t.Errorf("%s: %.40q has the element %q", name, s, e)
				}
			}
		}
	}
}

func TestP5_11Bytes(t *testing.T) {
	l := locale.Default()
	list := append(shortStrings("a", 4), shortStrings("Bb0\x00\x7f\x80\xff", 3)...)
	for _, a := range list {
		for _, b := range list {
			if got, want := locale.Compare(l, a, b), strings.Compare(a, b); got != want {
				t.Fatalf("Compare(%q, %q) = %d, want %d", a, b, got, want)
			}
		}
	}
	for i := range 256 {
		for j := range 256 {
			if got, want := locale.Compare(l, allBytes()[i:i+1], allBytes()[j:j+1]), cmp.Compare(i, j); got != want {
				t.Fatalf("Compare of the bytes %d and %d is %d, want %d", i, j, got, want)
			}
		}
	}
	for _, s := range append(list, allBytes(), "ch", "ä\u20ac") {
		elements := locale.Split(l, s)
		if len(elements) != len(s) || strings.Join(elements, "") != s {
			t.Errorf("Split(%q) = %q", s, elements)
		}
	}
}
