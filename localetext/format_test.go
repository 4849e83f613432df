package localetext_test

import (
	"math"
	"slices"
	"strconv"
	"strings"
	"testing"

	"texttools/api"
	"texttools/locale"
	"texttools/localetext"
	"texttools/num"
)

func checkFormat(t *testing.T, l api.Locale, want string) {
	t.Helper()
	if got := localetext.Format(l); got != want {
		t.Errorf("Format = %.300q, want %.300q", got, want)
	}
}

// checkFormatOf checks the entries that the change of the default locale causes.
func checkFormatOf(t *testing.T, change func(l *api.Locale), entries ...string) {
	t.Helper()
	checkFormat(t, changed("a", change), strings.Join(append([]string{"locale a"}, entries...), "\n")+"\n")
}

func TestP6_2Examples(t *testing.T) {
	checkFormat(t, locale.Default(), "locale posix\n")
	checkFormat(t, changed("posix", func(l *api.Locale) { l.Weights['A'], l.Weights[199], l.Weights[200] = 97, 300, 300 }), "locale posix\nweight 65 97\nweight 199 200 300\n")
	checkFormatOf(t, func(l *api.Locale) {
		l.Classes = []api.Class{{Name: "vowel", Set: setOf('a', 'e', 'i', 'j', 'k')}, {Name: "none"}}
	}, "class vowel 97 101 105-107", "class none")
}

func TestP6_2Names(t *testing.T) {
	for _, name := range []string{"a", "_", "locale", "Z9_", strings.Repeat("n", 32)} {
		checkFormat(t, changed(name, nil), "locale "+name+"\n")
		checkFormatOf(t, func(l *api.Locale) { l.Classes = []api.Class{{Name: name, Set: setOf(1)}} }, "class "+name+" 1")
	}
}

// listed returns the numbers from lo to hi, each of them after a space.
func listed(lo, hi int) string {
	list := ""
	for c := lo; c <= hi; c++ {
		list += " " + strconv.Itoa(c)
	}
	return list
}

func TestP6_2Weights(t *testing.T) {
	for _, c := range []struct {
		weights func(c int) int
		want    []string
	}{
		{func(c int) int { return c }, nil},
		{func(c int) int { return 0 }, []string{"weight" + listed(1, 255) + " 0"}},
		{func(c int) int { return 255 }, []string{"weight" + listed(0, 254) + " 255"}},
		{func(c int) int { return 100 }, []string{"weight" + listed(0, 99) + listed(101, 255) + " 100"}},
		{func(c int) int { return 65535 }, []string{"weight" + listed(0, 255) + " 65535"}},
		{func(c int) int { return c / 128 }, []string{"weight" + listed(1, 127) + " 0", "weight" + listed(128, 255) + " 1"}},
		{func(c int) int { return c % 2 }, []string{"weight" + seconds(2) + " 0", "weight" + seconds(3) + " 1"}},
		{func(c int) int { return max(c, 254) }, []string{"weight" + listed(0, 253) + " 254"}},
		{func(c int) int { return max(c, 1) }, []string{"weight 0 1"}},
		{func(c int) int { return min(c, 254) }, []string{"weight 255 254"}},
	} {
		checkFormatOf(t, func(l *api.Locale) { l.Weights = weights(c.weights) }, c.want...)
	}
	checkFormatOf(t, func(l *api.Locale) {
		l.Weights[1], l.Weights[9], l.Weights[200], l.Weights[2], l.Weights[100], l.Weights[10] = 700, 2, 700, 0, 2, 0
	}, "weight 1 200 700", "weight 2 10 0", "weight 9 100 2")
	checkFormatOf(t, func(l *api.Locale) { l.Weights[7], l.Weights[8] = 8, 7 }, "weight 7 8", "weight 8 7")
	checkFormatOf(t, func(l *api.Locale) { l.Weights[0], l.Weights[255] = 255, 0 }, "weight 0 255", "weight 255 0")
	var every []string
	for c := range 256 {
		every = append(every, "weight "+strconv.Itoa(c)+" "+strconv.Itoa(65535-c))
	}
	checkFormatOf(t, func(l *api.Locale) { l.Weights = weights(func(c int) int { return 65535 - c }) }, every...)
}

// seconds returns every second number from first to 255, each of them after a space.
func seconds(first int) string {
	list := ""
	for c := first; c <= 255; c += 2 {
		list += " " + strconv.Itoa(c)
	}
	return list
}

func TestP6_2LowerAndUpper(t *testing.T) {
	usual := locale.Default()
	for _, f := range []func(c byte) byte{
		func(c byte) byte { return c }, func(c byte) byte { return c + 1 }, func(c byte) byte { return ^c }, func(byte) byte { return 0 }, func(byte) byte { return 255 }, func(byte) byte { return 'x' }, func(c byte) byte { return c | 32 },
		func(c byte) byte { return usual.Lower[c] }, func(c byte) byte { return usual.Upper[c] }, func(c byte) byte { return usual.Lower[c] ^ 1 }, func(c byte) byte { return usual.Upper[c] - 1 },
	} {
		var lower, upper []string
		for c := range 256 {
			form := f(byte(c))
			entry := " " + strconv.Itoa(c) + " " + strconv.Itoa(int(form))
			if form != usual.Lower[c] {
				lower = append(lower, "lower"+entry)
			}
			if form != usual.Upper[c] {
				upper = append(upper, "upper"+entry)
			}
		}
		checkFormatOf(t, func(l *api.Locale) { l.Lower = table(f) }, lower...)
		checkFormatOf(t, func(l *api.Locale) { l.Upper = table(f) }, upper...)
		checkFormatOf(t, func(l *api.Locale) { l.Lower, l.Upper = table(f), table(f) }, append(lower, upper...)...)
	}
	checkFormatOf(t, func(l *api.Locale) {
		l.Lower, l.Upper = with(with(l.Lower, 255, 0), 'A', 'A'), with(with(l.Upper, 0, 255), 'b', 'b')
	}, "lower 65 65", "lower 255 0", "upper 0 255", "upper 98 98")
}

func TestP6_2Classes(t *testing.T) {
	odd := func(c int) bool { return c%2 == 1 }
	even := func(c int) bool { return c%2 == 0 }
	for want, set := range map[string]api.Charset{
		"": {}, " 0-255": between(0, 255), seconds(0): setWhere(even), seconds(1): setWhere(odd), " 0": setOf(0), " 255": setOf(255), " 0 255": setOf(0, 255), " 0-1": setOf(0, 1), " 254-255": setOf(254, 255), " 1-254": between(1, 254), " 0-253 255": setWhere(func(c int) bool { return c != 254 }), " 0 2-255": setWhere(func(c int) bool { return c != 1 }),
		" 97 101 105-107": setOf(97, 101, 105, 106, 107), " 1-2 4-5": setOf(1, 2, 4, 5), " 9-10 99-100": setOf(9, 10, 99, 100), " 63-64": setOf(63, 64), " 63 65": setOf(63, 65), " 127-128 191-192": setOf(127, 128, 191, 192), " 48-57 65-90 97-122": setWhere(func(c int) bool { return 48 <= c && c <= 57 || 65 <= c && c <= 90 || 97 <= c && c <= 122 }),
	} {
		checkFormatOf(t, func(l *api.Locale) { l.Classes = []api.Class{{Name: "x", Set: set}} }, "class x"+want)
	}
	for lo := range 256 {
		for hi := lo + 1; hi < 256; hi++ {
			l := changed("a", func(l *api.Locale) { l.Classes = []api.Class{{Name: "x", Set: between(lo, hi)}} })
			checkFormat(t, l, "locale a\nclass x "+strconv.Itoa(lo)+"-"+strconv.Itoa(hi)+"\n")
		}
	}
	checkFormatOf(t, func(l *api.Locale) {
		l.Classes = []api.Class{{Name: "z", Set: setOf(9)}, {Name: "a", Set: setOf(9)}, {Name: "alpha"}, {Name: "Z", Set: setOf(8)}}
	}, "class z 9", "class a 9", "class alpha", "class Z 8")
}

func TestP6_2Elements(t *testing.T) {
	checkFormatOf(t, func(l *api.Locale) {
		l.Elements = []api.Element{{Text: "ch", Weight: 500}, {Text: "\xff\x00"}, {Text: "aa", Weight: 97}, {Text: "\x00\xff", Weight: 65535}, {Text: "\n ", Weight: 10}, {Text: "ab", Weight: 1}}
	}, "element 99 104 500", "element 255 0 0", "element 97 97 97", "element 0 255 65535", "element 10 32 10", "element 97 98 1")
}

func TestP6_2OrderOfEntries(t *testing.T) {
	checkFormatOf(t, func(l *api.Locale) {
		l.Elements = []api.Element{{Text: "\x01\x02", Weight: 3}, {Text: "\x01\x01", Weight: 3}}
		l.Classes = []api.Class{{Name: "b", Set: setOf(1)}, {Name: "a", Set: setOf(0)}}
		l.Upper, l.Lower = with(with(l.Upper, 3, 1), 2, 9), with(with(l.Lower, 5, 4), 4, 5)
		l.Weights[200], l.Weights[100], l.Weights[0] = 1, 2, 2
	}, "weight 0 100 2", "weight 200 1", "lower 4 5", "lower 5 4", "upper 2 9", "upper 3 1", "class b 1", "class a 0", "element 1 2 3", "element 1 1 3")
}

func TestP6_2Invalid(t *testing.T) {
	checkFormat(t, api.Locale{}, "")
	checkFormat(t, api.Locale{Name: "posix"}, "")
	for i, change := range []func(l *api.Locale){
		func(l *api.Locale) { l.Name = "" }, func(l *api.Locale) { l.Name = "9" }, func(l *api.Locale) { l.Name = "a b" }, func(l *api.Locale) { l.Name = strings.Repeat("a", 33) },
		func(l *api.Locale) { l.Weights = nil }, func(l *api.Locale) { l.Weights = l.Weights[:255] }, func(l *api.Locale) { l.Weights = append(l.Weights, 256) }, func(l *api.Locale) { l.Weights[255] = 65536 }, func(l *api.Locale) { l.Weights[0] = -1 }, func(l *api.Locale) { l.Weights[9] = math.MinInt },
		func(l *api.Locale) { l.Lower = "" }, func(l *api.Locale) { l.Lower = l.Lower[1:] }, func(l *api.Locale) { l.Lower += "x" }, func(l *api.Locale) { l.Upper = "" }, func(l *api.Locale) { l.Upper = l.Upper[:255] }, func(l *api.Locale) { l.Upper += "\x00" },
		func(l *api.Locale) { l.Classes = manyClasses(25) }, func(l *api.Locale) { l.Classes = []api.Class{{}} }, func(l *api.Locale) { l.Classes = []api.Class{{Name: "a"}, {Name: "a"}} }, func(l *api.Locale) { l.Classes = []api.Class{{Name: "a"}, {Name: "-"}} },
		func(l *api.Locale) { l.Elements = manyElements(65) }, func(l *api.Locale) { l.Elements = []api.Element{{}} }, func(l *api.Locale) { l.Elements = []api.Element{{Text: "a"}} }, func(l *api.Locale) { l.Elements = []api.Element{{Text: "abc"}} },
		func(l *api.Locale) { l.Elements = []api.Element{{Text: "ab", Weight: 65536}} }, func(l *api.Locale) { l.Elements = []api.Element{{Text: "ab", Weight: -1}} }, func(l *api.Locale) { l.Elements = []api.Element{{Text: "ab"}, {Text: "ab", Weight: 1}} },
	} {
		if got := localetext.Format(changed("a", change)); got != "" {
			t.Errorf("Format of the invalid locale number %d is %.100q", i, got)
		}
	}
}

// TestP6_2FormOfTheText checks what holds for every canonical text: lines that are entries, whose words have one space between them.
func TestP6_2FormOfTheText(t *testing.T) {
	order := []string{"locale", "weight", "lower", "upper", "class", "element"}
	for name, l := range someLocales() {
		s := localetext.Format(l)
		if !strings.HasSuffix(s, "\n") {
			t.Fatalf("%s: the text %.100q does not end with a line feed", name, s)
		}
		at := 0
		for _, line := range strings.Split(strings.TrimSuffix(s, "\n"), "\n") {
			fields := strings.Fields(line)
			if len(fields) < 2 || strings.Join(fields, " ") != line {
				t.Fatalf("%s: the line %.100q", name, line)
			}
			place := slices.Index(order, fields[0])
			if place < at {
				t.Fatalf("%s: the line %.100q comes after one of %s", name, line, order[at])
			}
			at = place
			for _, field := range fields[1:] {
				if _, err := num.Parse(field); err != api.OK && fields[0] != "class" && fields[0] != "locale" {
					t.Errorf("%s: the line %.100q has the word %q", name, line, field)
				}
			}
		}
	}
}

func TestP6_2ArgumentIsUnchanged(t *testing.T) {
	spare := func() api.Locale {
		l := full()
		l.Weights = append(l.Weights, 1, 2, 3)[:256]
		l.Classes = append(l.Classes, api.Class{Name: "spare", Set: setOf(1)})[:24]
		l.Elements = append(l.Elements, api.Element{Text: "sp", Weight: 1})[:64]
		return l
	}
	l, before := spare(), spare()
	first, second := localetext.Format(l), localetext.Format(l)
	if first != second {
		t.Errorf("two results of Format are different")
	}
	l.Weights, before.Weights = l.Weights[:259], before.Weights[:259]
	l.Classes, before.Classes = l.Classes[:25], before.Classes[:25]
	l.Elements, before.Elements = l.Elements[:65], before.Elements[:65]
	if !same(l, before) {
		t.Errorf("Format changed its argument to %v", l)
	}
}
