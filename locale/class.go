package locale

import (
	"texttools/api"
	"texttools/charset"
)

// standardClasses has the ranges of bytes of each standard class: the first and the last byte of one range after the other.
var standardClasses = [...]struct{ name, ranges string }{
	{"alpha", "AZaz"},
	{"digit", "09"},
	{"alnum", "09AZaz"},
	{"upper", "AZ"},
	{"lower", "az"},
	{"xdigit", "09AFaf"},
	{"blank", "\t\t  "},
	{"space", "\t\r  "},
	{"cntrl", "\x00\x1f\x7f\x7f"},
	{"graph", "!~"},
	{"print", " ~"},
	{"punct", "!/:@[`{~"},
}

// Class returns the class with this name and true: the one of the locale, if there is one, and otherwise the standard class.
func Class(l api.Locale, name string) (api.Charset, bool) {
	for _, class := range usable(l).Classes {
		if class.Name == name {
			return class.Set, true
		}
	}
	for _, class := range standardClasses {
		if class.name == name {
			return union(class.ranges), true
		}
	}
	return api.Charset{}, false
}

// union returns the set of the bytes of all ranges, which are given by their first and last bytes.
func union(ranges string) api.Charset {
	var set api.Charset
	for ranges != "" {
		set = charset.Union(set, charset.Range(ranges[0], ranges[1]))
		ranges = ranges[2:]
	}
	return set
}

// Equivalent returns the set of all bytes with the weight of c.
func Equivalent(l api.Locale, c byte) api.Charset {
	weights := usable(l).Weights
	return weighing(weights, weights[c], weights[c])
}

// Between returns the set of all bytes whose weights are from that of lo to that of hi, and true; false if the weight of lo is the greater one.
func Between(l api.Locale, lo, hi byte) (api.Charset, bool) {
	weights := usable(l).Weights
	if weights[lo] > weights[hi] {
		return api.Charset{}, false
	}
	return weighing(weights, weights[lo], weights[hi]), true
}

// weighing returns the set of all bytes whose weights are from least to greatest.
func weighing(weights []int, least, greatest int) api.Charset {
	var list []byte
	for c, weight := range weights {
		if least <= weight && weight <= greatest {
			list = append(list, byte(c))
		}
	}
	return charset.Of(string(list))
}

// Lower returns s with each byte in its lower-case form.
func Lower(l api.Locale, s string) string {
	return translate(usable(l).Lower, s)
}

// Upper returns s with each byte in its upper-case form.
func Upper(l api.Locale, s string) string {
	return translate(usable(l).Upper, s)
}

// translate returns s with each byte c replaced by byte c of the table.
func translate(table, s string) string {
	translated := make([]byte, len(s))
	for i := range len(s) {
		translated[i] = table[s[i]]
	}
	return string(translated)
}
