package retree_test

import (
	"fmt"
	"math/rand"
	"testing"

	"texttools/api"
	"texttools/retree"
)

func checkCheck(t *testing.T, name string, e api.Re, want api.Errno) {
	t.Helper()
	if got := retree.Check(e); got != want {
		t.Errorf("%s: Check(%.300s) = %v, want %v", name, show(e), got, want)
	}
}

// checkEverywhere checks the error of a tree without groups and references alone and in several places of greater trees.
func checkEverywhere(t *testing.T, name string, e api.Re, want api.Errno) {
	t.Helper()
	for _, whole := range []api.Re{e, cat(e, a), cat(a, e), alt(a, b, e), rep(0, -1, e), rep(0, 0, e), group(1, e), cat(group(1, a), back(1), group(2, alt(empty, e)), back(2)), leveled(10, e)} {
		checkCheck(t, name, whole, want)
	}
}

func TestP8_1Valid(t *testing.T) {
	for _, e := range []api.Re{
		empty, a, set("\x00"), set("\xff"), set("\x00\x3f\x40\x7f\x80\xbf\xc0\xff"), begin, end, cat(a, b), cat(a, b, a, b), cat(cat(a, b), cat(empty, empty)), alt(a, b), alt(empty, empty, alt(a, a)), rep(0, -1, a), rep(0, 0, a), rep(3, 5, rep(0, 1, rep(1, -1, begin))), group(1, a), group(1, empty), group(1, group(2, group(3, a))), cat(group(1, a), back(1)), alt(group(1, a), back(1)), cat(group(1, group(2, a)), back(2), back(1)), cat(group(1, cat(group(2, a), back(2))), back(1)),
		{Op: api.ReSet, Set: api.Charset{Bits: [4]uint64{1<<64 - 1, 1<<64 - 1, 1<<64 - 1, 1<<64 - 1}}},
	} {
		checkCheck(t, "valid", e, api.OK)
	}
}

// fitting returns a valid node with the operator op.
func fitting(op int) api.Re {
	switch op {
	case api.ReSet:
		return a
	case api.ReCat:
		return cat(a, b)
	case api.ReAlt:
		return alt(a, b)
	case api.ReRep:
		return rep(0, -1, a)
	case api.ReGroup:
		return group(1, a)
	}
	return api.Re{Op: op}
}

func TestP8_1Operators(t *testing.T) {
	for _, op := range []int{-1 << 63, -1000, -1, 0, 10, 11, 1000, 1<<63 - 1} {
		checkEverywhere(t, "operator", api.Re{Op: op}, api.ErrType)
		checkEverywhere(t, "operator", api.Re{Op: op, Set: charsetOf("a"), Lo: 1, Hi: 1, Group: 1}, api.ErrType)
		checkEverywhere(t, "operator", api.Re{Op: op, Args: []api.Re{a}}, api.ErrType)
		checkEverywhere(t, "operator", api.Re{Op: op, Args: []api.Re{a, b}}, api.ErrType)
	}
	for op := 1; op <= 8; op++ {
		checkCheck(t, "operator", fitting(op), api.OK)
	}
	checkCheck(t, "operator", cat(group(1, a), fitting(9)), api.ErrName)
	checkCheck(t, "operator", cat(group(1, a), back(1)), api.OK)
}

func TestP8_1NumbersOfArgs(t *testing.T) {
	for op := 1; op <= 9; op++ {
		for count := range 6 {
			e := fitting(op)
			e.Args = several(count, b)
			want := api.ErrType
			switch {
			case op == 3 || op == 4:
				if count >= 2 {
					want = api.OK
				}
			case op == 5 || op == 6:
				if count == 1 {
					want = api.OK
				}
			case count == 0:
				want = api.OK
			}
			if op == 9 {
				e.Group = 1
				checkCheck(t, "reference", cat(group(1, a), e), want)
				continue
			}
			checkCheck(t, fmt.Sprint(count, " Args"), e, want)
			if want != api.OK && op != 6 {
				checkEverywhere(t, fmt.Sprint(count, " Args"), e, want)
			}
		}
	}
	for op := 1; op <= 8; op++ {
		e := fitting(op)
		e.Args = append(make([]api.Re, 0, 9), e.Args...)
		checkCheck(t, "Args with spare capacity", e, api.OK)
	}
}

func TestP8_1Fields(t *testing.T) {
	for op := 1; op <= 9; op++ {
		for _, number := range []int{-1 << 63, -2, -1, 1, 2, 64, 65, 1<<63 - 1} {
			for field := range 4 {
				e := fitting(op)
				if op == 9 {
					e.Group = 1
				}
				has := false
				switch field {
				case 0:
					e.Set, has = charsetOf(string([]byte{byte(number)})), op == 2
				case 1:
					e.Lo, has = number, op == 5
				case 2:
					e.Hi, has = number, op == 5
				case 3:
					e.Group, has = number, op == 6 || op == 9
				}
				whole := cat(group(1, a), e, a)
				if op == 6 {
					whole = cat(e, a)
				}
				if err := retree.Check(whole); (err == api.ErrType) == has {
					t.Errorf("Check(%s) = %v", show(whole), err)
				}
			}
		}
	}
	for word := range 4 {
		var set api.Charset
		set.Bits[word] = 1 << 63
		checkEverywhere(t, "a set", api.Re{Op: api.ReEmpty, Set: set}, api.ErrType)
		checkEverywhere(t, "a set", api.Re{Op: api.ReSet, Set: set}, api.OK)
	}
	checkEverywhere(t, "the empty set", api.Re{Op: api.ReSet}, api.ErrType)
}

func TestP8_1Bounds(t *testing.T) {
	numbers := []int{-1 << 63, -3, -2, -1, 0, 1, 2, 3, 31, 32, 33, 62, 63, 64, 65, 66, 1<<63 - 1}
	for _, lo := range numbers {
		for _, hi := range numbers {
			want := api.ErrRange
			if 0 <= lo && lo <= 64 && (hi == -1 || lo <= hi && hi <= 64) {
				want = api.OK
			}
			checkEverywhere(t, "bounds", rep(lo, hi, a), want)
			checkCheck(t, "bounds", rep(lo, hi, group(1, a)), want)
			checkCheck(t, "bounds", rep(lo, hi, api.Re{Op: api.ReSet}), api.ErrType)
		}
	}
	checkCheck(t, "bounds of the last repetition", cat(rep(0, 64, a), rep(64, 64, a), rep(64, -1, a), rep(0, 65, a)), api.ErrRange)
	checkCheck(t, "bounds within bounds", rep(0, 0, rep(2, 1, a)), api.ErrRange)
}

func TestP8_1Groups(t *testing.T) {
	for name, c := range map[string]struct {
		e    api.Re
		want api.Errno
	}{
		"number 1":                   {group(1, a), api.OK},
		"number 0":                   {group(0, a), api.ErrRange},
		"number 2":                   {group(2, a), api.ErrRange},
		"number -1":                  {group(-1, a), api.ErrRange},
		"the least number":           {group(-1<<63, a), api.ErrRange},
		"the greatest number":        {group(1<<63-1, a), api.ErrRange},
		"0 and 1":                    {cat(group(0, a), group(1, a)), api.ErrRange},
		"1 and 2":                    {cat(group(1, a), group(2, a)), api.OK},
		"2 and 3":                    {cat(group(2, a), group(3, a)), api.ErrRange},
		"1 and 1":                    {cat(group(1, a), group(1, a)), api.ErrRange},
		"2 and 1":                    {cat(group(2, a), group(1, a)), api.ErrRange},
		"1 and 3":                    {cat(group(1, a), group(3, a)), api.ErrRange},
		"1, 2 and 2":                 {cat(group(1, a), group(2, a), group(2, a)), api.ErrRange},
		"1, 3 and 2":                 {cat(group(1, a), group(3, a), group(2, a)), api.ErrRange},
		"1 of 2":                     {group(1, group(2, a)), api.OK},
		"2 of 1":                     {group(2, group(1, a)), api.ErrRange},
		"1 of 1":                     {group(1, group(1, a)), api.ErrRange},
		"1 of 3":                     {cat(group(1, group(3, a)), group(2, a)), api.ErrRange},
		"1 of 2 and 3, 4":            {cat(group(1, cat(group(2, a), group(3, a))), group(4, a)), api.OK},
		"1 of 2 and 3, 3":            {cat(group(1, cat(group(2, a), group(3, a))), group(3, a)), api.ErrRange},
		"1 of 3 and 4, 2":            {cat(group(1, cat(group(3, a), group(4, a))), group(2, a)), api.ErrRange},
		"in alternatives":            {alt(group(1, a), group(2, a)), api.OK},
		"twice in alternatives":      {alt(group(1, a), group(1, a)), api.ErrRange},
		"in repetitions":             {cat(rep(0, 0, group(1, a)), rep(2, 2, group(2, a))), api.OK},
		"not counted in repetitions": {cat(rep(2, 2, group(1, a)), group(3, a)), api.ErrRange},
		"numbers up to 9":            {cat(groups(9)...), api.OK},
		"8 after 9":                  {cat(append(groups(9), group(8, a))...), api.ErrRange},
	} {
		checkCheck(t, name, c.e, c.want)
		checkCheck(t, name, leveled(20, c.e), c.want)
		checkCheck(t, name, rep(0, -1, alt(empty, c.e)), c.want)
	}
}

func TestP8_1References(t *testing.T) {
	one := group(1, a)
	for name, c := range map[string]struct {
		e    api.Re
		want api.Errno
	}{
		"closed":                            {cat(one, back(1)), api.OK},
		"0":                                 {cat(one, back(0)), api.ErrName},
		"-1":                                {cat(one, back(-1)), api.ErrName},
		"the least number":                  {cat(one, back(-1<<63)), api.ErrName},
		"the greatest number":               {cat(one, back(1<<63-1)), api.ErrName},
		"missing":                           {cat(one, back(2)), api.ErrName},
		"no group":                          {back(1), api.ErrName},
		"no group and 0":                    {back(0), api.ErrName},
		"open":                              {group(1, back(1)), api.ErrName},
		"open, after a part":                {group(1, cat(a, back(1))), api.ErrName},
		"open, within another one":          {group(1, group(2, cat(a, back(1)))), api.ErrName},
		"the inner one, open":               {group(1, group(2, cat(a, back(2)))), api.ErrName},
		"the inner one, closed":             {group(1, cat(group(2, a), back(2))), api.OK},
		"the outer one of a closed one":     {group(1, cat(group(2, a), back(1))), api.ErrName},
		"later":                             {cat(back(1), one), api.ErrName},
		"later, but not the first one":      {cat(one, back(2), group(2, a)), api.ErrName},
		"closed, but not directly before":   {cat(one, group(2, a), group(3, a), back(1)), api.OK},
		"in another group":                  {cat(one, group(2, back(1)), back(2)), api.OK},
		"in itself, in another group":       {cat(one, group(2, back(2))), api.ErrName},
		"in another alternative":            {alt(one, back(1)), api.OK},
		"in an alternative before":          {alt(back(1), one), api.ErrName},
		"in a repetition":                   {rep(0, -1, cat(one, back(1))), api.OK},
		"in the next time of a repetition":  {rep(2, 2, cat(back(1), one)), api.ErrName},
		"to a group in a repetition":        {cat(rep(0, 0, one), back(1)), api.OK},
		"to all of nine groups":             {cat(append(groups(9), back(1), back(5), back(9))...), api.OK},
		"to the group after nine groups":    {cat(append(groups(9), back(10))...), api.ErrName},
		"wrong after many right ones":       {cat(one, back(1), back(1), back(1), back(2)), api.ErrName},
		"inner and outer one, both closed":  {cat(group(1, group(2, a)), back(1), back(2)), api.OK},
		"to a group with a reference to it": {cat(one, group(2, cat(back(1), back(1))), back(2)), api.OK},
	} {
		checkCheck(t, name, c.e, c.want)
		checkCheck(t, name, leveled(20, c.e), c.want)
		checkCheck(t, name, cat(alt(empty, begin), c.e, end), c.want)
	}
}

func TestP8_1Limits(t *testing.T) {
	for name, c := range map[string]struct{ fits, exceeds api.Re }{
		"nodes":                {sized(600), sized(601)},
		"nodes, alternatives":  {alt(several(599, a)...), alt(several(600, a)...)},
		"nodes in parts":       {cat(sized(300), sized(299)), cat(sized(300), sized(300))},
		"nodes in the middle":  {cat(a, sized(597), a), cat(a, sized(598), a)},
		"nodes, one repeated":  {rep(0, 0, sized(599)), rep(0, 0, sized(600))},
		"groups":               {cat(groups(9)...), cat(groups(10)...)},
		"groups in groups":     {inGroups(9), inGroups(10)},
		"groups, alternatives": {alt(groups(9)...), alt(groups(10)...)},
		"groups and a reference": {cat(append(groups(9), back(9))...),
			cat(append(groups(10), back(10))...)},
		"levels":                {leveled(32, a), leveled(33, a)},
		"levels of repetitions": {nested(31, 0, -1, a), nested(32, 0, -1, a)},
		"levels of one side":    {cat(leveled(31, a), a), cat(leveled(32, a), a)},
		"levels in the middle":  {cat(a, leveled(31, a), leveled(5, a)), cat(a, leveled(32, a), leveled(5, a))},
		"levels of the second":  {alt(leveled(5, a), leveled(31, a)), alt(leveled(5, a), leveled(32, a))},
	} {
		checkCheck(t, name, c.fits, api.OK)
		checkCheck(t, name, c.exceeds, api.ErrLimit)
	}
	for _, count := range []int{602, 1000, 100000} {
		checkCheck(t, "many nodes", cat(several(count, a)...), api.ErrLimit)
	}
	for _, count := range []int{11, 64, 65, 599, 5000} {
		checkCheck(t, "many groups", cat(groups(count)...), api.ErrLimit)
		checkCheck(t, "many groups", cat(append(groups(count), back(count))...), api.ErrLimit)
		checkCheck(t, "many groups", cat(append(groups(count), back(count+1))...), api.ErrName)
		checkCheck(t, "many groups", cat(append(groups(count), group(count, a))...), api.ErrRange)
	}
	for _, count := range []int{34, 100, 20000} {
		checkCheck(t, "many levels", nested(count, 1, 1, a), api.ErrLimit)
		checkCheck(t, "many levels", nested(count, 1, 1, back(1)), api.ErrName)
		checkCheck(t, "many levels", nested(count, 1, 1, rep(2, 1, a)), api.ErrRange)
		checkCheck(t, "many levels", nested(count, 1, 1, api.Re{}), api.ErrType)
	}
}

// inGroups returns a group within a group and so on, count of them.
func inGroups(count int) api.Re {
	e := a
	for number := count; number >= 1; number-- {
		e = group(number, e)
	}
	return e
}

// faults returns trees with an error each, by the places of the errors in the list of P8.1.
func faults() [][]api.Re {
	return [][]api.Re{
		{{}, {Op: 99}, {Op: api.ReSet}, cat(), cat(a), alt(a), {Op: api.ReRep}, {Op: api.ReEmpty, Lo: 1}, {Op: api.ReBegin, Group: 1}, {Op: api.ReEnd, Args: []api.Re{a}}},
		{rep(-1, 1, a), rep(0, 65, a), rep(2, 1, a), rep(0, -2, a), group(0, a), group(20, a)},
		{back(0), back(-1), back(20), back(99)},
		{sized(601), leveled(33, a), nested(40, 0, 1, a)},
	}
}

func TestP8_1TwoErrors(t *testing.T) {
	errs := []api.Errno{api.ErrType, api.ErrRange, api.ErrName, api.ErrLimit}
	list := faults()
	for i, kind := range list {
		for _, one := range kind {
			checkCheck(t, "one error", one, errs[i])
			for j, other := range list {
				for _, two := range other {
					for _, whole := range []api.Re{cat(one, two), cat(two, one), alt(a, one, b, two), alt(two, a, one, b), cat(leveled(10, one), two), cat(two, leveled(10, one))} {
						checkCheck(t, "two errors", whole, errs[min(i, j)])
					}
				}
			}
		}
	}
	everything := cat(list[3][0], list[2][0], list[1][0], list[0][0])
	checkCheck(t, "all errors", everything, api.ErrType)
	checkCheck(t, "all but ErrType", cat(everything.Args[:3]...), api.ErrRange)
	checkCheck(t, "ErrLimit and ErrName", cat(everything.Args[:2]...), api.ErrName)
	checkCheck(t, "an error within the node of another one", rep(2, 1, api.Re{}), api.ErrType)
	checkCheck(t, "an error within the node of another one", api.Re{Args: []api.Re{rep(2, 1, a)}}, api.ErrType)
	checkCheck(t, "an error within the node of another one", rep(2, 1, back(1)), api.ErrRange)
	checkCheck(t, "two errors of one node", api.Re{Op: api.ReRep, Lo: 2, Hi: 1}, api.ErrType)
	checkCheck(t, "two errors of one node", api.Re{Op: api.ReGroup, Group: 7, Hi: 1, Args: []api.Re{a}}, api.ErrType)
	checkCheck(t, "two errors of one node", api.Re{Op: api.ReBack, Group: 7, Lo: 1}, api.ErrType)
	checkCheck(t, "a reference to a group with a wrong number", cat(group(3, a), back(3)), api.ErrRange)
}

func TestP8_1ArgumentsOfLeaves(t *testing.T) {
	for _, op := range []int{api.ReEmpty, api.ReBegin, api.ReEnd} {
		checkCheck(t, "an empty list", api.Re{Op: op, Args: []api.Re{}}, api.OK)
		checkCheck(t, "spare capacity", api.Re{Op: op, Args: make([]api.Re, 1, 3)[:0]}, api.OK)
	}
	checkCheck(t, "empty lists", cat(api.Re{Op: api.ReGroup, Group: 1, Args: []api.Re{{Op: api.ReEmpty, Args: []api.Re{}}}}, api.Re{Op: api.ReBack, Group: 1, Args: []api.Re{}}), api.OK)
	checkCheck(t, "an empty list", api.Re{Op: api.ReCat, Args: []api.Re{}}, api.ErrType)
	checkCheck(t, "an empty list", api.Re{Op: api.ReRep, Args: []api.Re{}}, api.ErrType)
}

// smallTrees returns all trees with count nodes of some kinds, most of which are not valid.
func smallTrees(count int, known map[int][]api.Re) []api.Re {
	if list, ok := known[count]; ok {
		return list
	}
	var list []api.Re
	if count == 1 {
		list = []api.Re{empty, a, begin, back(1), back(2), {}}
	}
	for _, args := range smallLists(count-1, known) {
		switch len(args) {
		case 0:
		case 1:
			list = append(list, group(1, args[0]), group(2, args[0]), rep(0, -1, args[0]), rep(3, 2, args[0]))
		default:
			list = append(list, cat(args...), alt(args...))
		}
	}
	known[count] = list
	return list
}

// smallLists returns all lists of such trees with count nodes together.
func smallLists(count int, known map[int][]api.Re) [][]api.Re {
	if count <= 0 {
		return [][]api.Re{nil}
	}
	var lists [][]api.Re
	for first := 1; first <= count; first++ {
		for _, e := range smallTrees(first, known) {
			for _, rest := range smallLists(count-first, known) {
				lists = append(lists, append([]api.Re{e}, rest...))
			}
		}
	}
	return lists
}

func TestP8_1SmallTrees(t *testing.T) {
	known := map[int][]api.Re{}
	found := map[api.Errno]int{}
	for count := 1; count <= 5; count++ {
		for _, e := range smallTrees(count, known) {
			want := definedCheck(e)
			found[want]++
			if got := retree.Check(e); got != want {
				t.Fatalf("Check(%s) = %v, want %v", show(e), got, want)
			}
		}
	}
	if found[api.OK] < 500 || found[api.ErrType] < 500 || found[api.ErrRange] < 500 || found[api.ErrName] < 500 {
		t.Errorf("the trees have the errors %v", found)
	}
}

func TestP8_1RandomTrees(t *testing.T) {
	random := rand.New(rand.NewSource(81))
	found := map[api.Errno]int{}
	for _, e := range validTrees(82, 5000, 6, 64) {
		checkCheck(t, "a random tree", e, api.OK)
		for range 6 {
			e = disturbed(random, e)
			want := definedCheck(e)
			found[want]++
			checkCheck(t, "a disturbed tree", e, want)
		}
	}
	if found[api.OK] < 500 || found[api.ErrType] < 500 || found[api.ErrRange] < 500 || found[api.ErrName] < 500 {
		t.Errorf("the trees have the errors %v", found)
	}
}

func TestP8_1Examples(t *testing.T) {
	checkCheck(t, "example 2", cat(group(1, a), back(1)), api.OK)
	checkCheck(t, "example 2", group(1, back(1)), api.ErrName)
	checkCheck(t, "example 2", cat(back(1), group(1, a)), api.ErrName)
	checkCheck(t, "example 3", rep(2, 1, api.Re{Op: 99}), api.ErrType)
	checkCheck(t, "example 3", rep(2, 1, empty), api.ErrRange)
}

func TestP8_1TreesThatContainThemselves(t *testing.T) {
	for _, op := range []int{api.ReGroup, api.ReRep, api.ReCat, api.ReAlt} {
		args := make([]api.Re, 2)
		args[0] = api.Re{Op: op, Args: args}
		args[1] = api.Re{Op: op, Args: args[1:]}
		for _, e := range args {
			if retree.Check(e) == api.OK || retree.Nullable(e) || retree.Back(e) {
				t.Errorf("a tree of the operator %d that contains itself is valid", op)
			}
			retree.Size(e)
			retree.Groups(e)
			checkNothing(t, e)
		}
	}
}
