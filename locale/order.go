package locale

import (
	"cmp"
	"strings"

	"texttools/api"
	"texttools/charset"
)

// stepOf returns a function for the valid locale l that returns the size and the weight of the first collating element of a string that is not empty.
func stepOf(l api.Locale) func(s string) (size, weight int) {
	// Most bytes begin no element, so that this set spares the search for one.
	firsts := firstBytes(l.Elements)
	return func(s string) (size, weight int) {
		if charset.Has(firsts, s[0]) {
			for _, element := range l.Elements {
				if strings.HasPrefix(s, element.Text) {
					return elementSize, element.Weight
				}
			}
		}
		return 1, l.Weights[s[0]]
	}
}

func firstBytes(elements []api.Element) api.Charset {
	var firsts [maxElements]byte
	for i, element := range elements {
		firsts[i] = element.Text[0]
	}
	return charset.Of(string(firsts[:len(elements)]))
}

// Split returns the collating elements of s.
func Split(l api.Locale, s string) []string {
	step := stepOf(usable(l))
	var elements []string
	for s != "" {
		size, _ := step(s)
		elements = append(elements, s[:size])
		s = s[size:]
	}
	return elements
}

// Compare returns -1 if a comes before b, 1 if it comes after it, and 0 if both are the same string.
func Compare(l api.Locale, a, b string) int {
	step := stepOf(usable(l))
	restA, restB := a, b
	for restA != "" && restB != "" {
		sizeA, weightA := step(restA)
		sizeB, weightB := step(restB)
		if weightA != weightB {
			return cmp.Compare(weightA, weightB)
		}
		restA, restB = restA[sizeA:], restB[sizeB:]
	}
	// At most one rest is not empty, and it belongs to the string with the longer list of weights.
	if restA != restB {
		return cmp.Compare(len(restA), len(restB))
	}
	return cmp.Compare(a, b)
}
