package rematch

import (
	"cmp"
	"slices"

	"texttools/api"
)

// A parse is an end, and the number of the spans in the ledger.
type parse struct{ end, spans int }

// A collection is a list of parses, no two of which are equal.
type collection struct {
	list  []parse
	known map[parse]bool
}

// add appends those parses to the list that are not in it; ErrBudget if it gets too long. It takes what matcher.parses returns, and returns its error.
func (c *collection) add(found []parse, err api.Errno) api.Errno {
	if err != api.OK {
		return err
	}
	for _, p := range found {
		if c.known[p] {
			continue
		}
		if len(c.list) == api.MaxParses {
			return api.ErrBudget
		}
		if c.known == nil {
			c.known = map[parse]bool{}
		}
		c.known[p] = true
		c.list = append(c.list, p)
	}
	return api.OK
}

// sorted sorts a list without equal parses: greater ends come first, and equal ends keep their order.
func sorted(list []parse) []parse {
	slices.SortStableFunc(list, func(x, y parse) int {
		return cmp.Compare(y.end, x.end)
	})
	return list
}
