package redfa

import (
	"math/bits"

	"texttools/api"
)

// An instSet is a set of instructions: instruction i is in it if bit i % 64 of the element i / 64 is 1.
type instSet [api.MaxInsts / 64]uint64

func (set *instSet) has(i int) bool {
	return set[i/64]>>(i%64)&1 == 1
}

func (set *instSet) add(i int) {
	set[i/64] |= 1 << (i % 64)
}

// list returns the instructions of the set, ascending.
func (set *instSet) list() []int {
	var list []int
	for k, word := range set {
		for ; word != 0; word &= word - 1 {
			list = append(list, k*64+bits.TrailingZeros64(word))
		}
	}
	return list
}

// intersect returns the instructions that are in both sets.
func (set *instSet) intersect(other *instSet) instSet {
	var both instSet
	for k := range set {
		both[k] = set[k] & other[k]
	}
	return both
}

// following returns the instructions that come directly after those of the set. The last possible instruction must not be in it.
func (set *instSet) following() instSet {
	var after instSet
	carry := uint64(0)
	for k, word := range set {
		after[k] = word<<1 | carry
		carry = word >> 63
	}
	return after
}
