package localetext

import (
	"strings"

	"texttools/api"
	"texttools/charset"
	"texttools/locale"
	"texttools/num"
	"texttools/text"
)

// A writer collects the lines of a canonical text.
type writer struct{ lines []string }

// Format returns the canonical text of l, or the empty string if l is not valid.
func Format(l api.Locale) string {
	if locale.Check(l) != api.OK {
		return ""
	}
	usual := locale.Default()
	var w writer
	w.entry(keyLocale, l.Name)
	w.weights(l.Weights, usual.Weights)
	w.forms(keyLower, l.Lower, usual.Lower)
	w.forms(keyUpper, l.Upper, usual.Upper)
	for _, class := range l.Classes {
		w.entry(keyClass, append([]string{class.Name}, rangesOf(class.Set)...)...)
	}
	for _, element := range l.Elements {
		w.entry(keyElement, byteText(element.Text[0]), byteText(element.Text[1]), num.Format(element.Weight))
	}
	return text.Join(w.lines, true)
}

func (w *writer) entry(keyword string, arguments ...string) {
	w.lines = append(w.lines, strings.Join(append([]string{keyword}, arguments...), " "))
}

// weights writes an entry for each weight of a byte that differs from its usual one.
func (w *writer) weights(weights, usual []int) {
	bytesOf := map[int][]string{}
	var order []int
	for c, weight := range weights {
		if weight == usual[c] {
			continue
		}
		if bytesOf[weight] == nil {
			order = append(order, weight)
		}
		bytesOf[weight] = append(bytesOf[weight], num.Format(c))
	}
	for _, weight := range order {
		w.entry(keyWeight, append(bytesOf[weight], num.Format(weight))...)
	}
}

// forms writes an entry for each byte whose form in the table differs from its usual one.
func (w *writer) forms(keyword, table, usual string) {
	for c := range len(table) {
		if table[c] != usual[c] {
			w.entry(keyword, num.Format(c), byteText(table[c]))
		}
	}
}

// rangesOf returns the maximal ranges of successive bytes of the set.
func rangesOf(set api.Charset) []string {
	var ranges []string
	for list := charset.List(set); list != ""; {
		size := successive(list)
		if size == 1 {
			ranges = append(ranges, byteText(list[0]))
		} else {
			ranges = append(ranges, byteText(list[0])+"-"+byteText(list[size-1]))
		}
		list = list[size:]
	}
	return ranges
}

// successive returns how many bytes at the beginning of an ascending list succeed each other.
func successive(list string) int {
	size := 1
	for size < len(list) && list[size] == list[size-1]+1 {
		size++
	}
	return size
}

func byteText(c byte) string {
	return num.Format(int(c))
}
