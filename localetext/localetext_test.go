package localetext_test

import (
	"slices"
	"strconv"
	"strings"
	"testing"

	"texttools/api"
	"texttools/locale"
	"texttools/localetext"
)

// setWhere returns the set of the bytes that f accepts.
func setWhere(f func(c int) bool) api.Charset {
	var set api.Charset
	for c := range 256 {
		if f(c) {
			set.Bits[c/64] += 1 << (c % 64)
		}
	}
	return set
}

// setOf returns the set of these bytes.
func setOf(list ...int) api.Charset {
	return setWhere(func(c int) bool { return slices.Contains(list, c) })
}

// between returns the set of the bytes from lo to hi.
func between(lo, hi int) api.Charset {
	return setWhere(func(c int) bool { return lo <= c && c <= hi })
}

// table returns a string of 256 bytes, where byte c is f(c).
func table(f func(c byte) byte) string {
	list := make([]byte, 256)
	for c := range list {
		list[c] = f(byte(c))
	}
	return string(list)
}

func weights(f func(c int) int) []int {
	list := make([]int, 256)
	for c := range list {
		list[c] = f(c)
	}
	return list
}

// changed returns the default locale with the name and the change.
func changed(name string, change func(l *api.Locale)) api.Locale {
	l := locale.Default()
	l.Name = name
	if change != nil {
		change(&l)
	}
	return l
}

// with returns s with the byte c at the offset at.
func with(s string, at, c int) string {
	return s[:at] + string([]byte{byte(c)}) + s[at+1:]
}

// same compares two locales; an empty list may be nil.
func same(a, b api.Locale) bool {
	return a.Name == b.Name && slices.Equal(a.Weights, b.Weights) && a.Lower == b.Lower && a.Upper == b.Upper && slices.Equal(a.Classes, b.Classes) && slices.Equal(a.Elements, b.Elements)
}

func checkParse(t *testing.T, s string, want api.Locale) {
	t.Helper()
	got, err, line := localetext.Parse(s)
	if err != api.OK || line != 0 {
		t.Errorf("Parse(%.200q) = %v at %d", s, err, line)
	} else if !same(got, want) {
		t.Errorf("Parse(%.200q) = %v, want %v", s, got, want)
	}
}

func checkError(t *testing.T, s string, err api.Errno, line int) {
	t.Helper()
	got, gotErr, gotLine := localetext.Parse(s)
	if gotErr != err || gotLine != line {
		t.Errorf("Parse(%.200q) = %v at %d, want %v at %d", s, gotErr, gotLine, err, line)
	}
	if !same(got, api.Locale{}) {
		t.Errorf("Parse(%.200q) returns a locale with an error: %v", s, got)
	}
}

// checkEntry checks that the entry is read without an error, and that it makes this change.
func checkEntry(t *testing.T, entry string, change func(l *api.Locale)) {
	t.Helper()
	checkParse(t, "locale a\n"+entry+"\n", changed("a", change))
}

// checkEntryError checks that the entry has this error.
func checkEntryError(t *testing.T, entry string, err api.Errno) {
	t.Helper()
	checkLastError(t, entry, err, 0)
}

// checkLastError checks that the entry after so many entries without an error has this one.
func checkLastError(t *testing.T, entries string, err api.Errno, before int) {
	t.Helper()
	checkError(t, "locale a\n"+entries+"\n", err, 2+before)
	checkError(t, "# before it\nlocale a\n\nlower 1 2\n"+entries, err, 5+before)
	checkError(t, "locale a\n"+entries+"\nwhatever follows it\n", err, 2+before)
}

func TestP6_1Examples(t *testing.T) {
	checkParse(t, "locale posix\n", locale.Default())
	checkParse(t, "locale posix\nweight 65 97\nweight 199 200 300\n", changed("posix", func(l *api.Locale) { l.Weights['A'], l.Weights[199], l.Weights[200] = 97, 300, 300 }))
	checkEntry(t, "class vowel 97 101 105-107", func(l *api.Locale) {
		l.Classes = []api.Class{{Name: "vowel", Set: setOf('a', 'e', 'i', 'j', 'k')}}
	})
	checkEntry(t, "class none", func(l *api.Locale) { l.Classes = []api.Class{{Name: "none"}} })
	checkEntryError(t, "class x 5-3", api.ErrRange)
	checkEntryError(t, "class x 5-", api.ErrSyntax)
	checkEntryError(t, "class x -5", api.ErrRange)
	checkError(t, "", api.ErrSyntax, 1)
	checkError(t, "#\nweight 1 2\n", api.ErrSyntax, 2)
	checkError(t, "locale a\n\nlower 65 256\n", api.ErrRange, 3)
	checkEntryError(t, "weight 300 x", api.ErrRange)
}

func TestP6_1Locale(t *testing.T) {
	for _, name := range []string{"a", "Z", "_", "posix", "locale", "weight", "_azAZ09_", "a0", "__", strings.Repeat("N", 32), "_" + strings.Repeat("9", 31)} {
		checkParse(t, "locale "+name+"\n", changed(name, nil))
	}
}

func TestP6_1Weight(t *testing.T) {
	for entry, want := range map[string]map[int]int{
		"weight 65 97": {65: 97}, "weight 65 65": {65: 65}, "weight 0 0": {0: 0}, "weight 0 65535": {0: 65535}, "weight 255 0": {255: 0}, "weight 255 65535": {255: 65535}, "weight 255 255": {},
		"weight 1 2 3": {1: 3, 2: 3}, "weight 2 1 3": {1: 3, 2: 3}, "weight 3 2 1 3": {1: 3, 2: 3}, "weight 9 9 9 4": {9: 4}, "weight 0 255 256": {0: 256, 255: 256}, "weight 10 32 35 1000": {10: 1000, 32: 1000, 35: 1000},
		"weight 1 2\nweight 2 1": {1: 2, 2: 1}, "weight 7 8\nweight 7 9": {7: 9}, "weight 7 8\nweight 7 7": {}, "weight 1 2 3 500\nweight 2 400": {1: 500, 2: 400, 3: 500}, "weight 2 400\nweight 1 2 3 500": {1: 500, 2: 500, 3: 500},
	} {
		checkEntry(t, entry, func(l *api.Locale) {
			for c, weight := range want {
				l.Weights[c] = weight
			}
		})
	}
	every := "weight"
	for c := range 256 {
		every += " " + strconv.Itoa(255-c)
	}
	checkEntry(t, every+" 12345", func(l *api.Locale) { l.Weights = weights(func(int) int { return 12345 }) })
	for weight := range 65536 {
		if l, err, _ := localetext.Parse("locale a\nweight 65 " + strconv.Itoa(weight)); err != api.OK || l.Weights[65] != weight || l.Weights[64] != 64 || l.Weights[66] != 66 {
			t.Fatalf("the weight %d: %v, %v", weight, l.Weights, err)
		}
	}
}

func TestP6_1LowerAndUpper(t *testing.T) {
	for arguments, want := range map[string]map[int]int{
		"65 97": {65: 97}, "97 65": {97: 65}, "65 66": {65: 66}, "97 66": {97: 66}, "0 255": {0: 255}, "255 0": {255: 0}, "255 255": {}, "0 0": {}, "10 32": {10: 32}, "65 65": {65: 65}, "97 97": {97: 97}, "200 199": {200: 199},
	} {
		checkEntry(t, "lower "+arguments, func(l *api.Locale) {
			for c, form := range want {
				l.Lower = with(l.Lower, c, form)
			}
		})
		checkEntry(t, "upper "+arguments, func(l *api.Locale) {
			for c, form := range want {
				l.Upper = with(l.Upper, c, form)
			}
		})
	}
	checkEntry(t, "lower 1 2\nlower 2 1\nlower 1 3\nupper 1 9\nupper 255 8\nupper 1 10", func(l *api.Locale) {
		l.Lower = with(with(l.Lower, 1, 3), 2, 1)
		l.Upper = with(with(l.Upper, 1, 10), 255, 8)
	})
	for c := range 256 {
		for _, form := range []int{0, 1, 127, 128, 254, 255, c, 255 - c} {
			arguments := " " + strconv.Itoa(c) + " " + strconv.Itoa(form)
			checkEntry(t, "lower"+arguments, func(l *api.Locale) { l.Lower = with(l.Lower, c, form) })
			checkEntry(t, "upper"+arguments, func(l *api.Locale) { l.Upper = with(l.Upper, c, form) })
		}
	}
}

func TestP6_1Class(t *testing.T) {
	for ranges, want := range map[string]api.Charset{
		"": {}, " 0": setOf(0), " 255": setOf(255), " 97 101 105-107": setOf(97, 101, 105, 106, 107), " 0-255": between(0, 255), " 5-5": setOf(5), " 5 5 5-5": setOf(5), " 5-6": setOf(5, 6),
		" 0-0": setOf(0), " 255-255": setOf(255), " 254-255": setOf(254, 255), " 0-1": setOf(0, 1), " 9 8 7": setOf(7, 8, 9), " 20-30 10-25 28-40": between(10, 40), " 63-64 127-128 191-192": setOf(63, 64, 127, 128, 191, 192),
		" 0-99 100-199 200-255": between(0, 255), " 9-10": setOf(9, 10), " 99-100": setOf(99, 100), " 10-100": between(10, 100), " 1-2 4-5": setOf(1, 2, 4, 5), " 10 32 35 45": setOf(10, 32, 35, 45),
	} {
		checkEntry(t, "class x"+ranges, func(l *api.Locale) { l.Classes = []api.Class{{Name: "x", Set: want}} })
	}
	checkEntry(t, "class z 1\nclass alpha 2\nclass a\nclass Z 1\nclass class 0\nclass "+strings.Repeat("c", 32)+" 3", func(l *api.Locale) {
		l.Classes = []api.Class{{Name: "z", Set: setOf(1)}, {Name: "alpha", Set: setOf(2)}, {Name: "a"}, {Name: "Z", Set: setOf(1)}, {Name: "class", Set: setOf(0)}, {Name: strings.Repeat("c", 32), Set: setOf(3)}}
	})
	for lo := range 256 {
		for hi := lo; hi < 256; hi++ {
			s := "locale a\nclass x " + strconv.Itoa(lo) + "-" + strconv.Itoa(hi)
			if l, err, _ := localetext.Parse(s); err != api.OK || l.Classes[0].Set != between(lo, hi) {
				t.Fatalf("Parse(%q) = %v, %v", s, l.Classes, err)
			}
		}
	}
}

func TestP6_1Element(t *testing.T) {
	for arguments, want := range map[string]api.Element{
		"99 104 500": {Text: "ch", Weight: 500}, "0 0 0": {Text: "\x00\x00"}, "255 255 65535": {Text: "\xff\xff", Weight: 65535}, "0 255 1": {Text: "\x00\xff", Weight: 1}, "97 97 97": {Text: "aa", Weight: 97}, "10 32 10": {Text: "\n ", Weight: 10},
	} {
		checkEntry(t, "element "+arguments, func(l *api.Locale) { l.Elements = []api.Element{want} })
	}
	checkEntry(t, "element 98 97 5\nelement 97 98 5\nelement 97 97 4\nelement 66 97 5", func(l *api.Locale) {
		l.Elements = []api.Element{{Text: "ba", Weight: 5}, {Text: "ab", Weight: 5}, {Text: "aa", Weight: 4}, {Text: "Ba", Weight: 5}}
	})
	for c := range 256 {
		checkEntry(t, "element "+strconv.Itoa(c)+" "+strconv.Itoa(255-c)+" "+strconv.Itoa(257*c), func(l *api.Locale) {
			l.Elements = []api.Element{{Text: string([]byte{byte(c), byte(255 - c)}), Weight: 257 * c}}
		})
	}
}

// TestP6_1AnyOrder reads all orders of entries, of which those of one keyword concern different bytes.
func TestP6_1AnyOrder(t *testing.T) {
	entries := []string{"weight 1 2 300", "lower 1 2", "upper 1 2", "class x 1", "element 1 2 3"}
	want := changed("a", func(l *api.Locale) {
		l.Weights[1], l.Weights[2] = 300, 300
		l.Lower, l.Upper = with(l.Lower, 1, 2), with(l.Upper, 1, 2)
		l.Classes = []api.Class{{Name: "x", Set: setOf(1)}}
		l.Elements = []api.Element{{Text: "\x01\x02", Weight: 3}}
	})
	var permute func(chosen, rest []string)
	permute = func(chosen, rest []string) {
		if len(rest) == 0 {
			checkParse(t, "locale a\n"+strings.Join(chosen, "\n"), want)
		}
		for i := range rest {
			permute(append(slices.Clone(chosen), rest[i]), slices.Delete(slices.Clone(rest), i, i+1))
		}
	}
	permute(nil, entries)
}

func TestP6_1BlanksAndLineFeeds(t *testing.T) {
	want := changed("a", func(l *api.Locale) {
		l.Weights[65], l.Weights[66] = 97, 97
		l.Classes = []api.Class{{Name: "x", Set: setOf(1, 2, 3, 9)}}
	})
	for _, s := range []string{
		"locale a\nweight 65 66 97\nclass x 1-3 9\n", "locale a\nweight 65 66 97\nclass x 1-3 9", "locale\ta\nweight\t65\t66\t97\nclass\tx\t1-3\t9\n",
		"  locale   a  \n\tweight \t 65\t 66 \t\t97\t\n \t class    x  1-3      9 \t ", "locale a \nweight 65 66 97 \nclass x 1-3 9 \n", " locale a\n weight 65 66 97\n class x 1-3 9",
		"locale a\nweight 65 66 97\nclass x 1-3 9\n\n\n", "locale a\n\n\nweight 65 66 97\n \n\t\nclass x 1-3 9\n#", "#\n\nlocale a\nweight 65 66 97\nclass x 1-3 9\n#\n#locale b\n",
		"locale a\nweight 65" + strings.Repeat(" ", 20000) + "66" + strings.Repeat("\t", 20000) + "97\nclass x 1-3 9",
	} {
		checkParse(t, s, want)
	}
	for _, entry := range []string{"weight 1\r2 3", "lower 1\u00a02", "class x 1\v2", "class x 1,2", "class x 1\f", "lower\r1 2", "upper 1 2\r", "upper 1 2\x00", "class x 1 - 3", "class x 1- 3", "class x 1 -"} {
		checkEntryError(t, entry, api.ErrSyntax)
	}
	checkEntryError(t, "class x 1 -3", api.ErrRange)
	checkError(t, "locale a\r\n", api.ErrName, 1)
	checkError(t, "locale a\n\r\n", api.ErrSyntax, 2)
}

func TestP6_1SkippedLines(t *testing.T) {
	for _, skipped := range []string{"", " ", "\t", " \t \t", "#", "##", "# ", "#locale b", "# class x 300", "#\t#", "#\r", "#\x00\xff", "#" + strings.Repeat("x", 10000), strings.Repeat(" ", 10000)} {
		checkParse(t, skipped+"\nlocale a\n"+skipped+"\nlower 1 2\n"+skipped, changed("a", func(l *api.Locale) { l.Lower = with(l.Lower, 1, 2) }))
		checkError(t, skipped+"\n"+skipped+"\nlower 1 2\n", api.ErrSyntax, 3)
		checkError(t, "locale a\n"+skipped+"\nlower 1\n", api.ErrSyntax, 3)
	}
	for _, line := range []string{" #", "\t#", " # locale b", "a#", "\r", "\x00", "lower 1 2 #", "lower 1 2#", "class x 1 # 2", "class x #", "element 1 2 3 # 4"} {
		checkError(t, line+"\nlocale a\n", api.ErrSyntax, 1)
		checkEntryError(t, line, api.ErrSyntax)
	}
	checkEntryError(t, "class #", api.ErrName)
	checkError(t, "locale #\n", api.ErrName, 1)
}

func TestP6_1NoEntry(t *testing.T) {
	for s, line := range map[string]int{
		"": 1, "\n": 2, "\n\n\n": 4, "#": 2, "#\n": 2, "#\n#": 3, " ": 2, " \t": 2, "\n ": 3, "# locale a": 2, "#locale a\n\n": 3, "\n#": 3, " \n\t\n": 3, strings.Repeat("\n", 65536): 65537, strings.Repeat("#", 65536): 2,
	} {
		checkError(t, s, api.ErrSyntax, line)
	}
}

func TestP6_1TextLimit(t *testing.T) {
	want := changed("a", func(l *api.Locale) { l.Weights[1] = 2 })
	begin, end := "locale a\n", "weight 1 2"
	for _, filler := range []string{"\n", "#", " "} {
		fits := begin + strings.Repeat(filler, 65536-len(begin)-len(end)-1) + "\n" + end
		if filler == " " {
			fits = begin + strings.Repeat(filler, 65536-len(begin)-len(end)) + end
		}
		if len(fits) != 65536 {
			t.Fatalf("a text of %d bytes", len(fits))
		}
		checkParse(t, fits, want)
		checkError(t, fits+"\n", api.ErrLimit, 0)
		checkError(t, "\n"+fits, api.ErrLimit, 0)
		checkError(t, "x"+fits[1:], api.ErrSyntax, 1)
		checkError(t, "x"+fits, api.ErrLimit, 0)
	}
	full := begin + strings.Repeat("weight 1 2\n", (65536-len(begin))/len("weight 1 2\n"))
	full += strings.Repeat("\n", 65536-len(full))
	checkParse(t, full, want)
	checkError(t, full+"x", api.ErrLimit, 0)
	checkError(t, full+strings.Repeat("x\n", 100000), api.ErrLimit, 0)
	checkError(t, strings.Repeat("\n", 65537), api.ErrLimit, 0)
	checkError(t, strings.Repeat("\n", 65535)+"x", api.ErrSyntax, 65536)
}

func TestP6_1ResultIsNew(t *testing.T) {
	s := "locale a\nweight 1 2\nclass x 1\nclass y 2\nelement 1 2 3\nelement 2 2 3\n"
	first, _, _ := localetext.Parse(s)
	second, _, _ := localetext.Parse(s)
	first.Weights[1], first.Classes[0].Name, first.Elements[1].Weight = 9, "z", 9
	first.Classes, first.Elements = append(first.Classes[:1], api.Class{}), append(first.Elements[:1], api.Element{})
	third, _, _ := localetext.Parse(s)
	if !same(second, third) || second.Weights[1] != 2 || second.Classes[0].Name != "x" || second.Elements[1].Weight != 3 {
		t.Errorf("a change of one result changes others to %v and %v", second, third)
	}
	if l, err, _ := localetext.Parse("locale b"); err != api.OK || !same(l, changed("b", nil)) {
		t.Errorf("Parse depends on its earlier calls: %v", l)
	}
}
