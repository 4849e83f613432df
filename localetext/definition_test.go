package localetext_test

import (
	"math/big"
	"regexp"
	"strings"
	"testing"

	"texttools/api"
	"texttools/locale"
	"texttools/localetext"
)

var (
	entryForm  = regexp.MustCompile(`^(locale( [^ ]+)|weight( [^ ]+){2,}|(lower|upper)( [^ ]+){2}|class( [^ ]+)+|element( [^ ]+){3})$`)
	nameForm   = regexp.MustCompile(`^[A-Za-z_][A-Za-z_0-9]{0,31}$`)
	numberForm = regexp.MustCompile(`^(0|-?[1-9][0-9]*)$`)
	rangeForm  = regexp.MustCompile(`^(.[^-]*)-(.*)$`)
)

// A definition reads a text by the sentences of the chapter. It keeps the first error.
type definition struct {
	l       api.Locale
	entries int
	err     api.Errno
}

// unless keeps the error unless ok is true or there is an earlier one.
func (d *definition) unless(ok bool, err api.Errno) {
	if !ok && d.err == api.OK {
		d.err = err
	}
}

func (d *definition) number(word string, most int64) int {
	d.unless(numberForm.MatchString(word), api.ErrSyntax)
	n, _ := new(big.Int).SetString(word, 10)
	if n == nil || n.Sign() < 0 || n.Cmp(big.NewInt(most)) > 0 {
		d.unless(false, api.ErrRange)
		return 0
	}
	return int(n.Int64())
}

// bytesOf returns the bytes of a range.
func (d *definition) bytesOf(word string) []int {
	parts := rangeForm.FindStringSubmatch(word)
	if parts == nil {
		return []int{d.number(word, 255)}
	}
	lo, hi := d.number(parts[1], 255), d.number(parts[2], 255)
	d.unless(lo <= hi, api.ErrRange)
	var list []int
	for c := lo; c <= hi; c++ {
		list = append(list, c)
	}
	return list
}

func (d *definition) entry(words []string) {
	d.entries++
	d.unless(entryForm.MatchString(strings.Join(words, " ")), api.ErrSyntax)
	d.unless((words[0] == "locale") == (d.entries == 1), api.ErrSyntax)
	if d.err != api.OK {
		return
	}
	switch words[0] {
	case "locale":
		d.unless(nameForm.MatchString(words[1]), api.ErrName)
		d.l = changed(words[1], nil)
	case "class":
		d.class(words[1], words[2:])
	default:
		d.numbers(words)
	}
}

func (d *definition) class(name string, ranges []string) {
	d.unless(nameForm.MatchString(name), api.ErrName)
	for _, class := range d.l.Classes {
		d.unless(class.Name != name, api.ErrExists)
	}
	d.unless(len(d.l.Classes) < 24, api.ErrLimit)
	var list []int
	for _, word := range ranges {
		list = append(list, d.bytesOf(word)...)
	}
	d.l.Classes = append(d.l.Classes, api.Class{Name: name, Set: setOf(list...)})
}

func (d *definition) numbers(words []string) {
	var values []int
	for i, word := range words[1:] {
		most := int64(255)
		if words[0] == "weight" && i == len(words)-2 || words[0] == "element" && i == 2 {
			most = 65535
		}
		values = append(values, d.number(word, most))
	}
	last := len(values) - 1
	switch words[0] {
	case "weight":
		for _, c := range values[:last] {
			d.l.Weights[c] = values[last]
		}
	case "lower":
		d.l.Lower = with(d.l.Lower, values[0], values[1])
	case "upper":
		d.l.Upper = with(d.l.Upper, values[0], values[1])
	case "element":
		element := api.Element{Text: string([]byte{byte(values[0]), byte(values[1])}), Weight: values[2]}
		for _, earlier := range d.l.Elements {
			d.unless(earlier.Text != element.Text, api.ErrExists)
		}
		d.unless(len(d.l.Elements) < 64, api.ErrLimit)
		d.l.Elements = append(d.l.Elements, element)
	}
}

// parseByDefinition is a second definition of Parse, for texts that are not too long.
func parseByDefinition(s string) (api.Locale, api.Errno, int) {
	d := definition{l: locale.Default()}
	lines := strings.Split(s, "\n")
	if lines[len(lines)-1] == "" {
		lines = lines[:len(lines)-1]
	}
	for i, line := range lines {
		words := strings.FieldsFunc(line, func(r rune) bool { return r == ' ' || r == '\t' })
		if len(words) == 0 || strings.HasPrefix(line, "#") {
			continue
		}
		if d.entry(words); d.err != api.OK {
			return api.Locale{}, d.err, i + 1
		}
	}
	if d.entries == 0 {
		return api.Locale{}, api.ErrSyntax, len(lines) + 1
	}
	return d.l, api.OK, 0
}

func checkByDefinition(t *testing.T, s string) {
	t.Helper()
	if l, err, line := parseByDefinition(s); err == api.OK {
		checkParse(t, s, l)
	} else {
		checkError(t, s, err, line)
	}
	if t.Failed() {
		t.FailNow()
	}
}

// allEntries returns entries of every kind, with and without errors.
func allEntries() []string {
	entries := []string{
		"", " ", "#", "# x", " #", "\r", "x", "locale", "locale b", "locale 9", "class", "class x", "class y", "class y 9", "class 9", "class x 300", "class z 1-3 2 9-", "class z 3-1 x", "class z 1-3 7 300-x", "class\tz\t 5", "class q 0-255",
		"weight 1 2", "weight 1", "weight 1 2 300", "weight 256 x", "weight x 256", "weight 1 65536", "lower 65 66", "lower 65", "lower 65 66 67", "lower 256 x", "lower 97 -1", "upper 97 65", "upper", "upper 97 256", "upper x 256", "upper 1 1",
		"element 97 98 3", "element 97 98 4", "element 98 97 3", "element 97 98", "element 97 98 65536", "element x 98 65536", "element 256 98 x", "element 1 2 3 4", "LOWER 1 2", "lower\t1  2 ", "  upper 2 3",
	}
	for keyword, list := range slots() {
		entries = append(entries, entryOf(keyword, list, nil), entryOf(keyword, list, map[int]word{0: {"0", api.OK}}))
	}
	return entries
}

func TestP6_1TextsByDefinition(t *testing.T) {
	entries := allEntries()
	checkByDefinition(t, "")
	for _, first := range append(entries, "locale a") {
		for _, second := range append(entries, "locale a") {
			checkByDefinition(t, first+"\n"+second)
			checkByDefinition(t, "locale a\n"+first+"\n"+second+"\n")
			checkByDefinition(t, "locale a\nclass x 1-3\nelement 97 98 2\nweight 65 97\n"+first+"\n\n"+second)
		}
	}
}

// forShort calls f with all strings of one to length bytes of the alphabet.
func forShort(alphabet string, length int, f func(s string)) {
	list := []string{""}
	for range length {
		var longer []string
		for _, s := range list {
			for i := range len(alphabet) {
				f(s + alphabet[i:i+1])
				longer = append(longer, s+alphabet[i:i+1])
			}
		}
		list = longer
	}
}

func TestP6_1WordsByDefinition(t *testing.T) {
	forShort("0125-x", 5, func(word string) {
		for _, entry := range []string{"class y 7 ", "weight 7 ", "lower "} {
			checkByDefinition(t, "locale a\n"+entry+word+" 9")
		}
		checkByDefinition(t, "locale a\nelement 1 2 "+word)
		checkByDefinition(t, "locale a\nclass y "+word)
	})
	forShort("256-", 7, func(word string) { checkByDefinition(t, "locale a\nclass y "+word) })
}

func TestP6_1ShortTextsByDefinition(t *testing.T) {
	forShort("#a9 \t\n\r", 5, func(s string) {
		checkByDefinition(t, s)
		checkByDefinition(t, "locale "+s)
		checkByDefinition(t, "locale a\nclass "+s)
		checkByDefinition(t, "locale a"+s+"lower 1 2")
	})
}

// formatByDefinition is a second definition of Format for valid locales: it asks for each byte what has to be written at it.
func formatByDefinition(l api.Locale) string {
	usual := locale.Default()
	var weights, lower, upper strings.Builder
	written := map[int]bool{}
	for c := range 256 {
		if weight := l.Weights[c]; weight != c && !written[weight] {
			written[weight] = true
			weights.WriteString("weight")
			for d := c; d < 256; d++ {
				if l.Weights[d] == weight && d != weight {
					weights.WriteString(" " + decimal(d))
				}
			}
			weights.WriteString(" " + decimal(weight) + "\n")
		}
		if l.Lower[c] != usual.Lower[c] {
			lower.WriteString("lower " + decimal(c) + " " + decimal(int(l.Lower[c])) + "\n")
		}
		if l.Upper[c] != usual.Upper[c] {
			upper.WriteString("upper " + decimal(c) + " " + decimal(int(l.Upper[c])) + "\n")
		}
	}
	s := "locale " + l.Name + "\n" + weights.String() + lower.String() + upper.String()
	for _, class := range l.Classes {
		s += "class " + class.Name + rangesByDefinition(class.Set) + "\n"
	}
	for _, e := range l.Elements {
		s += "element " + decimal(int(e.Text[0])) + " " + decimal(int(e.Text[1])) + " " + decimal(e.Weight) + "\n"
	}
	return s
}

// rangesByDefinition returns the ranges of the set, each of them after a space: a range begins at a byte whose predecessor is not in the set, and ends at one whose successor is not.
func rangesByDefinition(set api.Charset) string {
	has := func(c int) bool { return c >= 0 && c < 256 && set.Bits[c/64]>>(c%64)&1 == 1 }
	s := ""
	for c := range 256 {
		switch {
		case has(c) && !has(c-1):
			s += " " + decimal(c)
		case has(c) && !has(c+1):
			s += "-" + decimal(c)
		}
	}
	return s
}

func decimal(n int) string { return big.NewInt(int64(n)).String() }

func TestP6_2ByDefinition(t *testing.T) {
	for name, l := range someLocales() {
		if got, want := localetext.Format(l), formatByDefinition(l); got != want {
			t.Errorf("%s: Format = %.300q, want %.300q", name, got, want)
		}
	}
}
