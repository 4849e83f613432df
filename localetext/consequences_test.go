package localetext_test

import (
	"strconv"
	"strings"
	"testing"

	"texttools/api"
	"texttools/locale"
	"texttools/localetext"
)

func manyClasses(count int) []api.Class {
	var classes []api.Class
	for i := range count {
		set := setWhere(func(c int) bool { return c*(i+1)%7 < i%5 })
		classes = append(classes, api.Class{Name: "class" + strconv.Itoa(i), Set: set})
	}
	return classes
}

func manyElements(count int) []api.Element {
	var elements []api.Element
	for i := range count {
		elements = append(elements, api.Element{Text: string([]byte{byte(i * 37), byte(255 - i*i)}), Weight: i * 1009 % 65536})
	}
	return elements
}

// full returns a locale whose canonical text is as long as one can be.
func full() api.Locale {
	l := api.Locale{
		Name:    strings.Repeat("n", 32),
		Weights: weights(func(c int) int { return 65535 - c }),
		Lower:   table(func(c byte) byte { return 100 + c%100 }),
		Upper:   table(func(c byte) byte { return 255 - c%100 }),
	}
	for i := range 24 {
		name := strings.Repeat("c", 30) + strconv.Itoa(10+i)
		l.Classes = append(l.Classes, api.Class{Name: name, Set: setWhere(func(c int) bool { return c%2 == i%2 })})
	}
	for i := range 64 {
		l.Elements = append(l.Elements, api.Element{Text: string([]byte{255, byte(100 + i)}), Weight: 65535 - i})
	}
	return l
}

// someLocales returns valid locales of all kinds.
func someLocales() map[string]api.Locale {
	locales := map[string]api.Locale{
		"default":  locale.Default(),
		"renamed":  changed("_", nil),
		"full":     full(),
		"classes":  changed("a", func(l *api.Locale) { l.Classes = manyClasses(24) }),
		"elements": changed("a", func(l *api.Locale) { l.Elements = manyElements(64) }),
		"a class for each number of successive bytes": changed("a", func(l *api.Locale) {
			for i := range 24 {
				l.Classes = append(l.Classes, api.Class{Name: "c" + strconv.Itoa(i), Set: setWhere(func(c int) bool { return c%(i+2) <= i/2 })})
			}
		}),
		"all of it": changed("all", func(l *api.Locale) {
			l.Classes, l.Elements, l.Weights = manyClasses(7), manyElements(9), weights(func(c int) int { return c * c % 300 })
			l.Lower, l.Upper = table(func(c byte) byte { return c ^ 1 }), table(func(c byte) byte { return c &^ 4 })
		}),
	}
	for name, f := range map[string]func(c int) int{
		"reversed": func(c int) int { return 255 - c }, "flat": func(int) int { return 0 }, "flat at 200": func(int) int { return 200 }, "greatest": func(int) int { return 65535 }, "two weights": func(c int) int { return c % 2 * 65535 },
		"mixed": func(c int) int { return c * 37 % 64 }, "shifted": func(c int) int { return c + 1 }, "some": func(c int) int { return c - c%10 }, "folded": func(c int) int { return int(locale.Default().Lower[c]) },
	} {
		locales["weights: "+name] = changed("w", func(l *api.Locale) { l.Weights = weights(f) })
		form := func(c byte) byte { return byte(f(int(c))) }
		locales["lower: "+name] = changed("l", func(l *api.Locale) { l.Lower = table(form) })
		locales["upper: "+name] = changed("u", func(l *api.Locale) { l.Upper = table(form) })
		locales["classes: "+name] = changed("c", func(l *api.Locale) {
			l.Classes = []api.Class{{Name: "big", Set: setWhere(func(c int) bool { return f(c) > 100 })}, {Name: "odd", Set: setWhere(func(c int) bool { return f(c)%2 == 1 })}, {Name: "own", Set: setWhere(func(c int) bool { return f(c) == c })}}
		})
	}
	return locales
}

func TestP6_3RoundTrip(t *testing.T) {
	for name, l := range someLocales() {
		if err := locale.Check(l); err != api.OK {
			t.Fatalf("%s: Check = %v", name, err)
		}
		s := localetext.Format(l)
		if s == "" || len(s) > api.MaxText {
			t.Errorf("%s: a text of %d bytes", name, len(s))
		}
		checkParse(t, s, l)
		checkParse(t, strings.TrimSuffix(s, "\n"), l)
	}
	for c := range 256 {
		for d := range 256 {
			l := changed("a", func(l *api.Locale) {
				l.Weights[c], l.Lower, l.Upper = d*257, with(l.Lower, d, c), with(l.Upper, c, d)
				l.Classes = []api.Class{{Name: "x", Set: setOf(c, d)}, {Name: "y", Set: between(c, d)}}
				l.Elements = []api.Element{{Text: string([]byte{byte(c), byte(d)}), Weight: c * d}}
			})
			if got, err, line := localetext.Parse(localetext.Format(l)); err != api.OK || line != 0 || !same(got, l) {
				t.Fatalf("Parse of the text of %v = %v, %v, %d", l, got, err, line)
			}
		}
	}
}

// checkRead checks what P6.4 promises for a text that is read without an error.
func checkRead(t *testing.T, s string) {
	t.Helper()
	l, err, _ := localetext.Parse(s)
	if err != api.OK {
		t.Errorf("Parse(%.200q) = %v", s, err)
		return
	}
	if err := locale.Check(l); err != api.OK {
		t.Errorf("Parse(%.200q) returns a locale that is not valid: %v", s, err)
	}
	canonical := localetext.Format(l)
	checkParse(t, canonical, l)
	if again, _, _ := localetext.Parse(canonical); localetext.Format(again) != canonical {
		t.Errorf("the canonical text of %.200q changes when it is read", s)
	}
}

func TestP6_4Read(t *testing.T) {
	for _, s := range []string{
		"locale a", "#\n\n  locale   a\t\n\n", "locale a\nweight 3 2 1 0 0\nweight 2 2\nweight 9 9", "locale a\nlower 65 97\nupper 65 65\nlower 65 65", "locale a\nupper 97 98\nupper 97 97\nupper 98 98",
		"locale a\nclass x 5 4 3 2-9 0-0\nclass y\nclass digit 0-255 7", "locale a\nelement 2 1 2\nclass x 9\nelement 1 1 1\nweight 1 1 1 5\nclass b 3\nlower 1 2", "locale locale\nclass class 1\nclass locale 2\n", "locale a\nweight" + listed(0, 255) + " 65535\nweight 65 65\nweight 66 65535\n",
		"locale a\n" + numbered(24, "class x", " 1 3-5 4-9 255") + numbered(64, "element ", " 0 0") + numbered(256, "weight ", " 0") + numbered(256, "lower ", " 255") + numbered(256, "upper ", " 0"),
		"locale a\n" + strings.Repeat("weight"+listed(0, 255)+" 7\nweight 9 9\n", 70),
	} {
		checkRead(t, s)
	}
	for _, l := range someLocales() {
		checkRead(t, strings.ReplaceAll(localetext.Format(l), " ", " \t ")+"\n#\nweight 65 66 67\nlower 1 1\nupper 255 0")
	}
	for _, entry := range allEntries() {
		if _, err, _ := localetext.Parse("locale a\n" + entry); err == api.OK {
			checkRead(t, "locale a\n"+entry)
		}
	}
}

func TestP6_5SkippedLines(t *testing.T) {
	texts := []string{"", "#", "\n", "x", "x\nlocale a", "locale 9", "locale a", "locale a\nlocale b\n", "weight 1 2", "#\n \n#", "locale a\nclass x\n\nclass x\nclass y"}
	for _, entry := range allEntries() {
		texts = append(texts, "locale a\n"+entry, "locale a\n#\nclass x 1-5\nelement 97 98 3\n"+entry+"\n")
	}
	for _, l := range someLocales() {
		texts = append(texts, localetext.Format(l))
	}
	for _, s := range texts {
		lines := strings.SplitAfter(s, "\n")
		step := 1 + len(lines)/20
		for at := 0; at < len(lines) && lines[at] != ""; at += step {
			checkInserted(t, s, lines, at)
		}
	}
}

// checkInserted checks that skipped lines before the line number at (from 0) change nothing but the line of an error.
func checkInserted(t *testing.T, s string, lines []string, at int) {
	t.Helper()
	l, err, line := localetext.Parse(s)
	for _, skipped := range []string{"\n", "#\n", " \t\n", "# locale b\n", "\n#x\n \n"} {
		changed := strings.Join(lines[:at], "") + skipped + strings.Join(lines[at:], "")
		if err == api.OK {
			checkParse(t, changed, l)
			continue
		}
		moved := line
		if line > at {
			moved += strings.Count(skipped, "\n")
		}
		checkError(t, changed, err, moved)
	}
}

func TestP6_6Changes(t *testing.T) {
	for _, l := range someLocales() {
		s := localetext.Format(l)
		for c := range 256 {
			number := strconv.Itoa(c)
			for _, value := range []int{255 - c, c} {
				form := strconv.Itoa(value)
				checkParse(t, s+"weight "+number+" "+strconv.Itoa(value*257)+"\n", changedByte(l, func(l *api.Locale) { l.Weights[c] = value * 257 }))
				checkParse(t, s+"lower "+number+" "+form+"\n", changedByte(l, func(l *api.Locale) { l.Lower = with(l.Lower, c, value) }))
				checkParse(t, s+"upper "+number+" "+form+"\n", changedByte(l, func(l *api.Locale) { l.Upper = with(l.Upper, c, value) }))
			}
		}
	}
}

// changedByte returns l with the change, which leaves the weights of the argument as they are.
func changedByte(l api.Locale, change func(l *api.Locale)) api.Locale {
	l.Weights = append([]int{}, l.Weights...)
	change(&l)
	return l
}
