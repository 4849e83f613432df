package localetext_test

import (
	"strconv"
	"strings"
	"testing"

	"texttools/api"
	"texttools/localetext"
)

// badNames are words that are not names.
var badNames = []string{
	"0", "9a", "-", "a-b", "a.b", "a+", "@a", "a[", "a`", "a{", "a/", "a:", "ä", "aä", "a\x80", "\xff", "a\x00", "\x00", "a\r", "\ra", "a\v", "a#", "1-2", "+", strings.Repeat("a", 33), strings.Repeat("_", 40000),
}

func TestP6_1Keywords(t *testing.T) {
	for _, keyword := range []string{
		"Locale", "LOCALE", "local", "locales", "weights", "weigh", "Weight", "WEIGHT", "Lower", "lowe", "low", "UPPER", "class:", "classes", "elements", "Element", "e", "x", "_", "0", "weight,", "\"class\"", "\rclass", "class\r", "clàss", "\x00", "posix", "\x01#",
	} {
		for _, arguments := range []string{"", " 1", " a", " 1 2", " 1 2 3", " a 1 2", " 300"} {
			checkEntryError(t, keyword+arguments, api.ErrSyntax)
			checkError(t, keyword+arguments+"\nlocale a\n", api.ErrSyntax, 1)
		}
	}
}

func TestP6_1FirstEntry(t *testing.T) {
	for _, entry := range []string{
		"weight 1 2", "weight", "weight 1", "weight 300 2", "lower 1 2", "lower 300 2", "upper 1 2", "upper 1", "class x", "class", "class 9", "class x 3-2", "element 1 2 3", "element 1 2", "element 256 2 3",
	} {
		checkError(t, entry, api.ErrSyntax, 1)
		checkError(t, entry+"\nlocale a\n", api.ErrSyntax, 1)
		checkError(t, "\n#locale a\n"+entry+"\n", api.ErrSyntax, 3)
	}
	for _, second := range []string{"locale a", "locale b", "locale", "locale 9", "locale a b", "locale\ta"} {
		checkEntryError(t, second, api.ErrSyntax)
		checkError(t, "locale a\nlower 1 2\nclass x\n"+second, api.ErrSyntax, 4)
	}
}

func TestP6_1WordCounts(t *testing.T) {
	permitted := map[string]func(words int) bool{
		"weight":  func(words int) bool { return words >= 3 },
		"lower":   func(words int) bool { return words == 3 },
		"upper":   func(words int) bool { return words == 3 },
		"class":   func(words int) bool { return words >= 2 },
		"element": func(words int) bool { return words == 4 },
	}
	for keyword, permits := range permitted {
		for words := 1; words <= 8; words++ {
			entry := keyword + strings.Repeat(" 1", words-1)
			if keyword == "class" && words > 1 {
				entry = "class x" + strings.Repeat(" 1", words-2)
			}
			if _, err, _ := localetext.Parse("locale a\n" + entry); (err == api.OK) != permits(words) {
				t.Errorf("Parse of the entry %q: %v", entry, err)
			}
			if !permits(words) {
				checkEntryError(t, entry, api.ErrSyntax)
				checkEntryError(t, strings.ReplaceAll(entry, "1", "300"), api.ErrSyntax)
			}
		}
	}
	for _, entry := range []string{"locale", "locale\t", "locale a b", "locale 9 9", "locale a b c", "locale a a a a", "locale a #"} {
		checkError(t, entry+"\n", api.ErrSyntax, 1)
	}
}

func TestP6_1Names(t *testing.T) {
	for _, name := range badNames {
		checkError(t, "locale "+name, api.ErrName, 1)
		checkError(t, "\n\nlocale "+name+"\nx\n", api.ErrName, 3)
		checkEntryError(t, "class "+name, api.ErrName)
		checkEntryError(t, "class "+name+" 1-3", api.ErrName)
		checkEntryError(t, "class "+name+" 300 x", api.ErrName)
	}
	for c := range 256 {
		letter := c == '_' || 'a' <= c && c <= 'z' || 'A' <= c && c <= 'Z'
		digit := '0' <= c && c <= '9'
		checkNameByte(t, string([]byte{byte(c)}), letter, c)
		checkNameByte(t, string([]byte{byte(c), 'x'}), letter, c)
		checkNameByte(t, string([]byte{'x', byte(c)}), letter || digit, c)
		checkNameByte(t, string([]byte{'x', byte(c), 'x'}), letter || digit, c)
	}
}

// checkNameByte checks whether the name, which contains the byte c, is accepted; blanks and line feeds belong to no name.
func checkNameByte(t *testing.T, name string, valid bool, c int) {
	t.Helper()
	if c == ' ' || c == '\t' || c == '\n' {
		return
	}
	if !valid {
		checkError(t, "locale "+name, api.ErrName, 1)
		checkEntryError(t, "class "+name, api.ErrName)
		return
	}
	checkParse(t, "locale "+name, changed(name, nil))
	checkEntry(t, "class "+name, func(l *api.Locale) { l.Classes = []api.Class{{Name: name}} })
}

// numbered returns so many lines, each of which is the prefix, a number that is different for each of them, and the rest.
func numbered(count int, prefix, rest string) string {
	lines := ""
	for i := range count {
		lines += prefix + strconv.Itoa(i) + rest + "\n"
	}
	return lines
}

func TestP6_1ClassExistsAndLimit(t *testing.T) {
	checkLastError(t, "class x 1\nclass x 1", api.ErrExists, 1)
	checkLastError(t, "class x\nlower 1 2\nclass y\nclass x 300", api.ErrExists, 3)
	checkLastError(t, "class alpha 1\nclass alpha", api.ErrExists, 1)
	checkLastError(t, "class x\nclass x x", api.ErrExists, 1)
	checkLastError(t, "class x\nclass 9\nclass x", api.ErrName, 1)
	checkEntry(t, "class x\nclass X\nclass xx", func(l *api.Locale) { l.Classes = []api.Class{{Name: "x"}, {Name: "X"}, {Name: "xx"}} })
	var most []api.Class
	for i := range 24 {
		most = append(most, api.Class{Name: "c" + strconv.Itoa(i), Set: setOf(7)})
	}
	lines := numbered(24, "class c", " 7")
	checkEntry(t, lines, func(l *api.Locale) { l.Classes = most })
	checkEntry(t, lines+"lower 1 2\nelement 1 2 3\n", func(l *api.Locale) {
		l.Classes, l.Lower, l.Elements = most, with(l.Lower, 1, 2), []api.Element{{Text: "\x01\x02", Weight: 3}}
	})
	for last, err := range map[string]api.Errno{
		"class d": api.ErrLimit, "class alpha": api.ErrLimit, "class d 300": api.ErrLimit, "class d x": api.ErrLimit, "class d 3-2": api.ErrLimit, "class c0": api.ErrExists, "class c23 300": api.ErrExists, "class 9": api.ErrName, "class 9 x": api.ErrName, "class": api.ErrSyntax,
	} {
		checkLastError(t, lines+last, err, 24)
	}
	checkError(t, "locale a\n"+numbered(300, "class c", ""), api.ErrLimit, 26)
}

func TestP6_1ElementExistsAndLimit(t *testing.T) {
	checkLastError(t, "element 1 2 3\nelement 1 2 3", api.ErrExists, 1)
	checkLastError(t, "element 1 2 3\nelement 1 2 4", api.ErrExists, 1)
	checkLastError(t, "element 1 2 3\nclass x\nelement 2 1 3\nelement 1 2 0", api.ErrExists, 3)
	checkLastError(t, "element 1 2 3\nelement 1 2 x", api.ErrSyntax, 1)
	checkLastError(t, "element 1 2 3\nelement 1 2 65536", api.ErrRange, 1)
	checkEntry(t, "element 1 2 3\nelement 2 1 3\nelement 1 1 3\nelement 12 1 3\nelement 1 12 3", func(l *api.Locale) {
		l.Elements = []api.Element{{Text: "\x01\x02", Weight: 3}, {Text: "\x02\x01", Weight: 3}, {Text: "\x01\x01", Weight: 3}, {Text: "\x0c\x01", Weight: 3}, {Text: "\x01\x0c", Weight: 3}}
	})
	var most []api.Element
	for i := range 64 {
		most = append(most, api.Element{Text: string([]byte{byte(i), 9}), Weight: 5})
	}
	lines := numbered(64, "element ", " 9 5")
	checkEntry(t, lines, func(l *api.Locale) { l.Elements = most })
	checkEntry(t, lines+"class x 1\nweight 3 4\n", func(l *api.Locale) {
		l.Elements, l.Classes, l.Weights[3] = most, []api.Class{{Name: "x", Set: setOf(1)}}, 4
	})
	for last, err := range map[string]api.Errno{
		"element 64 9 5": api.ErrLimit, "element 9 64 0": api.ErrLimit, "element 0 9 5": api.ErrExists, "element 63 9 1": api.ErrExists, "element 64 9 x": api.ErrSyntax, "element 64 9 65536": api.ErrRange, "element 0 9 x": api.ErrSyntax, "element 0 9 -1": api.ErrRange, "element 256 9 5": api.ErrRange, "element 1 2": api.ErrSyntax,
	} {
		checkLastError(t, lines+last, err, 64)
	}
	checkError(t, "locale a\n"+numbered(200, "element ", " 9 5"), api.ErrLimit, 66)
}

// notNumbers are words that are not the decimal form of an integer, and, as arguments of class, no ranges.
var notNumbers = []string{
	"x", "+5", "+", "-", "--", "00", "007", "01", "-0", "-01", "-00", "1x", "x1", "0x1", "1.0", "1e2", "1_0", "5.", ".5", "1,2", "a", "\x00", "\xff", "1\r", "\r", "٣", "1\x00", "#", "0b1", "00000000000000000000000000001", "99999999999999999999x", strings.Repeat("0", 30000), strings.Repeat("9", 30000) + "a",
}

// outOfRange are the decimal forms of integers that are no weights, and thus no bytes.
var outOfRange = []string{
	"65536", "-1", "-5", "-255", "-65535", "65537", "100000", "4294967296", "4294967297", "9223372036854775807", "9223372036854775808", "-9223372036854775808", "-9223372036854775809", "18446744073709551616", "18446744073709551617", "99999999999999999999", "-99999999999999999999", strings.Repeat("9", 30000), "-" + strings.Repeat("9", 30000),
}

// notBytes are the decimal forms of integers that are weights but no bytes.
var notBytes = []string{"256", "257", "300", "511", "512", "999", "1000", "65535"}

// A word is an argument with its error.
type word struct {
	text string
	err  api.Errno
}

// words returns the words of all lists with the error.
func words(err api.Errno, lists ...[]string) []word {
	var all []word
	for _, list := range lists {
		for _, text := range list {
			all = append(all, word{text, err})
		}
	}
	return all
}

// faultyRanges contains words that are faulty as ranges, beside those that are faulty as one byte.
var faultyRanges = []word{
	{"5-3", api.ErrRange}, {"255-0", api.ErrRange}, {"1-0", api.ErrRange}, {"10-9", api.ErrRange}, {"100-20", api.ErrRange}, {"5-", api.ErrSyntax}, {"0-", api.ErrSyntax}, {"256-", api.ErrRange}, {"x-", api.ErrSyntax},
	{"5-256", api.ErrRange}, {"0-65536", api.ErrRange}, {"256-300", api.ErrRange}, {"256-5", api.ErrRange}, {"300-x", api.ErrRange}, {"5-x", api.ErrSyntax}, {"x-5", api.ErrSyntax}, {"x-300", api.ErrSyntax}, {"5-03", api.ErrSyntax}, {"05-7", api.ErrSyntax}, {"5-+7", api.ErrSyntax},
	{"+5-7", api.ErrSyntax}, {"5--3", api.ErrRange}, {"5--7", api.ErrRange}, {"5--0", api.ErrSyntax}, {"5--", api.ErrSyntax}, {"-5-7", api.ErrRange}, {"-5-x", api.ErrRange}, {"-5--3", api.ErrRange}, {"-0-7", api.ErrSyntax}, {"--5", api.ErrSyntax}, {"---", api.ErrSyntax}, {"-x-5", api.ErrSyntax},
	{"1-2-3", api.ErrSyntax}, {"3-2-1", api.ErrSyntax}, {"1-2-", api.ErrSyntax}, {"300-2-3", api.ErrRange}, {"5-99999999999999999999", api.ErrRange}, {"99999999999999999999-5", api.ErrRange}, {"99999999999999999999-x", api.ErrRange}, {"5-4-", api.ErrSyntax}, {"9-8x", api.ErrSyntax}, {"a-z", api.ErrSyntax}, {"1-2,3", api.ErrSyntax},
}

// faultyBytes returns words that are no bytes; a range is not one either.
func faultyBytes() []word {
	return append(append(words(api.ErrSyntax, notNumbers), words(api.ErrRange, outOfRange, notBytes)...), words(api.ErrSyntax, []string{"1-2", "5-3", "300-2", "5-", "-5-7", "0-255"})...)
}

// faultyWeights returns words that are no weights.
func faultyWeights() []word {
	return append(append(words(api.ErrSyntax, notNumbers), words(api.ErrRange, outOfRange)...), words(api.ErrSyntax, []string{"1-2", "65535-1", "65536-", "-5-7", "1-"})...)
}

// A slot is a place for an argument, with a word that is valid there and words that are not.
type slot struct {
	valid  string
	faulty []word
}

// slots returns entries with a number of slots for each keyword.
func slots() map[string][]slot {
	first, second := slot{"1", faultyBytes()}, slot{"255", faultyBytes()}
	weight := slot{"65535", faultyWeights()}
	ranges := append(words(api.ErrSyntax, notNumbers), append(words(api.ErrRange, outOfRange, notBytes), faultyRanges...)...)
	return map[string][]slot{
		"weight":  {first, first, second, weight},
		"lower":   {first, second},
		"upper":   {second, first},
		"class x": {{"1", ranges}, {"0-255", ranges}, {"255", ranges}},
		"element": {first, second, weight},
	}
}

// entryOf returns the entry with the words that are valid in its slots, but for those that are given for a slot.
func entryOf(keyword string, slots []slot, given map[int]word) string {
	entry := keyword
	for i, s := range slots {
		if w, isGiven := given[i]; isGiven {
			entry += " " + w.text
		} else {
			entry += " " + s.valid
		}
	}
	return entry
}

func TestP6_1NumberErrors(t *testing.T) {
	for keyword, list := range slots() {
		if _, err, _ := localetext.Parse("locale a\n" + entryOf(keyword, list, nil)); err != api.OK {
			t.Errorf("Parse of the entry %q: %v", entryOf(keyword, list, nil), err)
		}
		for i, s := range list {
			for _, w := range s.faulty {
				checkEntryError(t, entryOf(keyword, list, map[int]word{i: w}), w.err)
			}
		}
	}
	checkEntryError(t, "weight 1 65536", api.ErrRange)
	checkEntryError(t, "weight 256 65536", api.ErrRange)
	checkEntryError(t, "class x 1 2 3 4 5 6 7 8 9 256", api.ErrRange)
}

// TestP6_1TwoNumberErrors combines some words of every kind in two slots of an entry, of which the first one decides.
func TestP6_1TwoNumberErrors(t *testing.T) {
	some := []word{{"x", api.ErrSyntax}, {"007", api.ErrSyntax}, {"-0", api.ErrSyntax}, {"-1", api.ErrRange}, {"65536", api.ErrRange}, {"99999999999999999999", api.ErrRange}}
	for keyword, list := range slots() {
		for i := range list {
			for j := range i {
				for _, first := range some {
					for _, second := range some {
						checkEntryError(t, entryOf(keyword, list, map[int]word{j: first, i: second}), first.err)
					}
				}
			}
		}
	}
	for _, first := range faultyRanges {
		for _, second := range faultyRanges {
			checkEntryError(t, "class x 1 "+first.text+" 2 "+second.text, first.err)
		}
	}
}

func TestP6_1FirstErrorOfTheText(t *testing.T) {
	faulty := []struct {
		line string
		err  api.Errno
	}{
		{"x", api.ErrSyntax}, {"locale b", api.ErrSyntax}, {"lower 1", api.ErrSyntax}, {"class 9", api.ErrName}, {"class y", api.ErrExists}, {"upper 1 300", api.ErrRange}, {"weight x 300", api.ErrSyntax}, {"element 5 6 7", api.ErrExists},
	}
	for _, first := range faulty {
		for _, second := range faulty {
			checkError(t, "locale a\nclass y\nelement 5 6 8\n"+first.line+"\n\n"+second.line+"\n", first.err, 4)
			checkError(t, "locale 9\n"+first.line+"\n"+second.line, api.ErrName, 1)
		}
	}
	for before := range 200 {
		checkError(t, "locale a\n"+strings.Repeat("lower 1 2\n", before)+"lower 1 256", api.ErrRange, before+2)
	}
}
