package retree_test

import (
	"math/rand"
	"testing"

	"texttools/api"
	"texttools/retree"
)

// A value is what Nullable, Length and First say of a tree.
type value struct {
	nullable    bool
	least, most int
	first       string
}

// checkValue checks what Nullable, Length and First return for a valid tree.
func checkValue(t *testing.T, e api.Re, want value) {
	t.Helper()
	set, also := retree.First(e)
	got := value{nullable: retree.Nullable(e), first: bytesOf(set)}
	got.least, got.most = retree.Length(e)
	if got != want || also != want.nullable {
		t.Errorf("the values of %.300s are %v, and %v by First; want %v", show(e), got, also, want)
	}
	if err := retree.Check(e); err != api.OK {
		t.Errorf("Check(%.300s) = %v", show(e), err)
	}
}

// checkNothing checks that there are no values of a tree that is not valid, and no expanded tree.
func checkNothing(t *testing.T, e api.Re) {
	t.Helper()
	least, most := retree.Length(e)
	set, ok := retree.First(e)
	if retree.Nullable(e) || least != 0 || most != 0 || set != (api.Charset{}) || ok {
		t.Errorf("a tree that is not valid has the values %v, %d, %d, %v, %v", retree.Nullable(e), least, most, set, ok)
	}
	if expanded, err := retree.Expand(e); err != retree.Check(e) || err == api.OK || !same(expanded, api.Re{}) {
		t.Errorf("Expand of a tree that is not valid = %.300s, %v; Check is %v", show(expanded), err, retree.Check(e))
	}
}

var (
	ab   = cat(a, b)
	loop = rep(0, -1, a)
)

func TestP8_3To5Operators(t *testing.T) {
	for _, c := range []struct {
		e    api.Re
		want value
	}{
		{empty, value{true, 0, 0, ""}},
		{begin, value{true, 0, 0, ""}},
		{end, value{true, 0, 0, ""}},
		{a, value{false, 1, 1, "a"}},
		{set("\x00a\xff"), value{false, 1, 1, "\x00a\xff"}},
		{ab, value{false, 2, 2, "a"}},
		{cat(a, b, a, b, a), value{false, 5, 5, "a"}},
		{cat(empty, a), value{false, 1, 1, "a"}},
		{cat(a, empty), value{false, 1, 1, "a"}},
		{cat(empty, empty), value{true, 0, 0, ""}},
		{cat(begin, end), value{true, 0, 0, ""}},
		{cat(begin, a, end), value{false, 1, 1, "a"}},
		{cat(a, begin, b), value{false, 2, 2, "a"}},
		{cat(end, a), value{false, 1, 1, "a"}},
		{cat(loop, b), value{false, 1, -1, "ab"}},
		{cat(b, loop), value{false, 1, -1, "b"}},
		{cat(loop, rep(0, 1, b)), value{true, 0, -1, "ab"}},
		{cat(rep(0, 1, a), begin, rep(0, 1, b), set("cd"), set("e")), value{false, 2, 4, "abcd"}},
		{cat(rep(0, 1, a), rep(0, 1, b), rep(0, 1, a)), value{true, 0, 3, "ab"}},
		{cat(rep(0, 0, a), b), value{false, 1, 1, "b"}},
		{alt(a, b), value{false, 1, 1, "ab"}},
		{alt(a, empty), value{true, 0, 1, "a"}},
		{alt(empty, a), value{true, 0, 1, "a"}},
		{alt(begin, end), value{true, 0, 0, ""}},
		{alt(ab, a), value{false, 1, 2, "a"}},
		{alt(a, cat(b, ab)), value{false, 1, 3, "ab"}},
		{alt(cat(b, ab), a, ab), value{false, 1, 3, "ab"}},
		{alt(loop, ab), value{true, 0, -1, "a"}},
		{alt(ab, cat(b, loop)), value{false, 1, -1, "ab"}},
		{alt(a, ab, alt(set("c"), loop)), value{true, 0, -1, "ac"}},
		{group(1, a), value{false, 1, 1, "a"}},
		{group(1, empty), value{true, 0, 0, ""}},
		{group(1, alt(loop, b)), value{true, 0, -1, "ab"}},
		{group(1, group(2, ab)), value{false, 2, 2, "a"}},
	} {
		checkValue(t, c.e, c.want)
	}
}

func TestP8_3To5Repetitions(t *testing.T) {
	optional, some := rep(0, 1, a), rep(1, -1, ab)
	for _, c := range []struct {
		e    api.Re
		want value
	}{
		{rep(0, 0, a), value{true, 0, 0, ""}},
		{rep(0, 1, a), value{true, 0, 1, "a"}},
		{rep(1, 1, a), value{false, 1, 1, "a"}},
		{rep(0, 64, ab), value{true, 0, 128, "a"}},
		{rep(2, 3, ab), value{false, 4, 6, "a"}},
		{rep(64, 64, ab), value{false, 128, 128, "a"}},
		{rep(0, -1, ab), value{true, 0, -1, "a"}},
		{rep(1, -1, ab), value{false, 2, -1, "a"}},
		{rep(64, -1, ab), value{false, 128, -1, "a"}},
		{rep(0, 0, empty), value{true, 0, 0, ""}},
		{rep(0, 1, empty), value{true, 0, 0, ""}},
		{rep(2, 3, empty), value{true, 0, 0, ""}},
		{rep(0, -1, empty), value{true, 0, 0, ""}},
		{rep(3, -1, empty), value{true, 0, 0, ""}},
		{rep(3, -1, cat(begin, end)), value{true, 0, 0, ""}},
		{rep(0, 0, loop), value{true, 0, 0, ""}},
		{rep(0, 1, loop), value{true, 0, -1, "a"}},
		{rep(1, 1, loop), value{true, 0, -1, "a"}},
		{rep(2, 3, loop), value{true, 0, -1, "a"}},
		{rep(0, -1, loop), value{true, 0, -1, "a"}},
		{rep(5, -1, loop), value{true, 0, -1, "a"}},
		{rep(0, 0, some), value{true, 0, 0, ""}},
		{rep(0, 1, some), value{true, 0, -1, "a"}},
		{rep(3, 4, some), value{false, 6, -1, "a"}},
		{rep(3, -1, some), value{false, 6, -1, "a"}},
		{rep(0, 0, optional), value{true, 0, 0, ""}},
		{rep(4, 4, optional), value{true, 0, 4, "a"}},
		{rep(4, -1, optional), value{true, 0, -1, "a"}},
		{rep(0, -1, rep(0, 0, loop)), value{true, 0, 0, ""}},
		{rep(7, -1, rep(0, 0, a)), value{true, 0, 0, ""}},
		{rep(2, 3, rep(4, 5, ab)), value{false, 16, 30, "a"}},
		{rep(2, 3, alt(a, cat(b, b))), value{false, 2, 6, "ab"}},
		{rep(0, 0, rep(1, 2, loop)), value{true, 0, 0, ""}},
		{rep(1, 2, rep(0, 0, a)), value{true, 0, 0, ""}},
		{cat(rep(0, 0, some), a), value{false, 1, 1, "a"}},
	} {
		checkValue(t, c.e, c.want)
	}
}

func TestP8_3To5References(t *testing.T) {
	for _, c := range []struct {
		e    api.Re
		want value
	}{
		{cat(group(1, a), back(1)), value{false, 2, 2, "a"}},
		{cat(group(1, a), back(1), back(1)), value{false, 3, 3, "a"}},
		{alt(group(1, ab), back(1)), value{false, 2, 2, "a"}},
		{cat(rep(0, 0, group(1, b)), back(1)), value{false, 1, 1, "b"}},
		{cat(rep(0, 0, group(1, b)), rep(2, 3, back(1))), value{false, 2, 3, "b"}},
		{cat(rep(0, 0, group(1, b)), rep(0, 0, back(1))), value{true, 0, 0, ""}},
		{cat(rep(0, 1, group(1, a)), group(2, empty), back(2), back(1), b), value{false, 2, 3, "a"}},
		{cat(group(1, loop), back(1)), value{true, 0, -1, "a"}},
		{cat(group(1, loop), rep(0, 0, back(1))), value{true, 0, -1, "a"}},
		{cat(rep(0, 0, group(1, loop)), rep(0, 0, back(1))), value{true, 0, 0, ""}},
		{cat(group(1, empty), rep(0, -1, back(1))), value{true, 0, 0, ""}},
		{cat(group(1, begin), group(2, end), back(2), back(1), a), value{false, 1, 1, "a"}},
		{cat(group(1, ab), group(2, cat(back(1), back(1))), back(2)), value{false, 10, 10, "a"}},
		{cat(group(1, cat(group(2, rep(0, 1, b)), back(2))), back(1), a), value{false, 1, 5, "ab"}},
		{cat(group(1, group(2, group(3, a))), back(3), back(2), back(1)), value{false, 4, 4, "a"}},
		{cat(group(1, alt(a, group(2, cat(b, b)))), back(2)), value{false, 3, 4, "ab"}},
		{cat(rep(0, 0, cat(group(1, a), group(2, alt(back(1), set("c"))))), alt(back(2), empty)), value{true, 0, 1, "ac"}},
		{rep(2, 3, cat(group(1, ab), back(1))), value{false, 8, 12, "a"}},
	} {
		checkValue(t, c.e, c.want)
	}
}

// ones returns a tree whose strings have 2^(6 count + 1) - 1 bytes.
func ones(count int) api.Re {
	e := a
	for range count {
		e = cat(rep(64, 64, e), rep(63, 63, a))
	}
	return e
}

// powered returns a tree whose strings have 64^count bytes.
func powered(count int) api.Re {
	return nested(count, 64, 64, a)
}

func TestP8_4GreatLengths(t *testing.T) {
	full := ones(5)
	for name, c := range map[string]struct {
		e           api.Re
		least, most int
	}{
		"2^30":                     {powered(5), 1 << 30, 1 << 30},
		"2^31 - 1":                 {full, greatest, greatest},
		"2^31 - 2":                 {cat(rep(64, 64, ones(4)), rep(62, 62, a)), greatest - 1, greatest - 1},
		"2^31 - 1 by an optional":  {cat(rep(64, 64, ones(4)), rep(62, 63, a)), greatest - 1, greatest},
		"2^31 by an optional":      {cat(full, rep(0, 1, a)), greatest, greatest},
		"2^31":                     {rep(2, 2, powered(5)), greatest, greatest},
		"2^31 as a sum":            {cat(powered(5), powered(5)), greatest, greatest},
		"2^31 - 1 and 1":           {cat(full, a), greatest, greatest},
		"1 and 2^31 - 1":           {cat(a, full), greatest, greatest},
		"2^31 - 1 and 0":           {cat(empty, full, empty), greatest, greatest},
		"twice 2^31 - 1":           {cat(full, full), greatest, greatest},
		"many times 2^31 - 1":      {cat(several(8, full)...), greatest, greatest},
		"2^32":                     {rep(4, 4, powered(5)), greatest, greatest},
		"2^36":                     {powered(6), greatest, greatest},
		"2^60":                     {powered(10), greatest, greatest},
		"2^66":                     {powered(11), greatest, greatest},
		"2^64":                     {rep(16, 16, powered(10)), greatest, greatest},
		"2^186":                    {powered(31), greatest, greatest},
		"the least one alone":      {rep(64, -1, powered(6)), greatest, -1},
		"the greatest one alone":   {rep(1, 64, powered(5)), 1 << 30, greatest},
		"least ones":               {alt(powered(6), powered(5)), 1 << 30, greatest},
		"all ones too great":       {alt(powered(6), powered(7)), greatest, greatest},
		"too great or unbounded":   {alt(loop, powered(6)), 0, -1},
		"unbounded or too great":   {alt(powered(6), rep(1, -1, a)), 1, -1},
		"unbounded and too great":  {cat(powered(6), loop), greatest, -1},
		"too great, unbounded":     {cat(loop, powered(6)), greatest, -1},
		"unbounded, very often":    {nested(20, 64, 64, rep(1, -1, a)), greatest, -1},
		"0 times too great":        {rep(0, 0, powered(6)), 0, 0},
		"0 times unbounded":        {rep(0, 0, nested(5, 3, -1, a)), 0, 0},
		"too great times nothing":  {nested(20, 64, 64, rep(0, 0, a)), 0, 0},
		"too great times 0 times":  {nested(20, 64, 64, rep(0, 0, powered(8))), 0, 0},
		"too great, 1 or not":      {rep(0, 1, powered(7)), 0, greatest},
		"too great, again 1":       {rep(1, 1, powered(7)), greatest, greatest},
		"from 0 to too great":      {nested(20, 0, 64, a), 0, greatest},
		"from too great to more":   {nested(20, 63, 64, a), greatest, greatest},
		"a great group":            {group(1, powered(6)), greatest, greatest},
		"a reference to a great":   {cat(rep(0, 0, group(1, powered(6))), back(1)), greatest, greatest},
		"references to great ones": {cat(group(1, powered(5)), back(1)), greatest, greatest},
		"2^31 - 1 by references":   {cat(rep(0, 0, group(1, ones(4))), rep(64, 64, back(1)), rep(63, 63, a)), greatest, greatest},
		"2^31 - 2 by references":   {cat(rep(0, 0, group(1, ones(4))), rep(64, 64, back(1)), rep(62, 62, a)), greatest - 1, greatest - 1},
		"references, unbounded":    {cat(group(1, rep(1, -1, powered(5))), back(1)), greatest, -1},
	} {
		if least, most := retree.Length(c.e); least != c.least || most != c.most {
			t.Errorf("%s: Length = %d, %d; want %d, %d", name, least, most, c.least, c.most)
		}
		if err := retree.Check(c.e); err != api.OK {
			t.Errorf("%s: Check = %v", name, err)
		}
	}
}

// chain returns nine groups, each of which but the first one has count references to the one before it, and a reference to the last one.
func chain(count int, e api.Re) api.Re {
	list := []api.Re{group(1, e)}
	for number := 2; number <= api.MaxGroups; number++ {
		list = append(list, group(number, cat(several(count, back(number-1))...)))
	}
	return cat(append(list, back(api.MaxGroups))...)
}

func TestP8_3To5ChainsOfReferences(t *testing.T) {
	// The lengths are a geometric series, and its last part again.
	checkValue(t, chain(2, a), value{false, 511 + 256, 511 + 256, "a"})
	checkValue(t, chain(2, rep(0, 1, a)), value{true, 0, 511 + 256, "a"})
	checkValue(t, chain(60, a), value{false, greatest, greatest, "a"})
	checkValue(t, chain(60, rep(0, 1, a)), value{true, 0, greatest, "a"})
	checkValue(t, chain(60, rep(0, -1, set("ab"))), value{true, 0, -1, "ab"})
	checkValue(t, chain(60, empty), value{true, 0, 0, ""})
	checkValue(t, rep(2, 2, chain(4, ab)), value{false, 2 * (2*87381 + 2*65536), 2 * (2*87381 + 2*65536), "a"})
}

func TestP8_3To5TreesThatAreNotValid(t *testing.T) {
	for _, kind := range faults() {
		for _, e := range kind {
			checkNothing(t, e)
			checkNothing(t, alt(empty, e))
			checkNothing(t, cat(a, e))
			checkNothing(t, rep(0, 0, e))
			checkNothing(t, leveled(9, e))
		}
	}
	checkNothing(t, group(1, alt(empty, back(1))))
	checkNothing(t, cat(back(1), group(1, loop)))
	checkNothing(t, cat(groups(10)...))
	checkNothing(t, cat(group(2, a), group(1, a)))
	checkNothing(t, alt(several(600, a)...))
	checkNothing(t, nested(20000, 0, -1, a))
	random := rand.New(rand.NewSource(85))
	for _, e := range validTrees(86, 3000, 5, 64) {
		if e = disturbed(random, e); definedCheck(e) != api.OK {
			checkNothing(t, e)
		}
	}
}

func TestP8_3To5Definition(t *testing.T) {
	for _, e := range append(validTrees(87, 10000, 5, 64), validTrees(88, 10000, 7, 3)...) {
		plain := resolved(e, e)
		least, most := definedLength(plain)
		checkValue(t, e, value{definedNullable(plain), counted(least), counted(most), bytesOf(definedFirst(plain))})
	}
}

func TestP8_3To5SmallTrees(t *testing.T) {
	known := map[int][]api.Re{}
	for count := 1; count <= 5; count++ {
		for _, e := range smallTrees(count, known) {
			if definedCheck(e) != api.OK {
				checkNothing(t, e)
				continue
			}
			plain := resolved(e, e)
			least, most := definedLength(plain)
			checkValue(t, e, value{definedNullable(plain), counted(least), counted(most), bytesOf(definedFirst(plain))})
		}
	}
}

// checkStrings checks the values of a tree by the strings of up to most bytes that it can match, where a reference counts as its group.
func checkStrings(t *testing.T, e api.Re, most int) {
	t.Helper()
	found := stringsOf(resolved(e, e), most)
	shortest, longest, firsts := most+1, 0, ""
	for s := range found {
		shortest, longest = min(shortest, len(s)), max(longest, len(s))
		firsts += s[:min(len(s), 1)]
	}
	least, greatest := retree.Length(e)
	first, _ := retree.First(e)
	if retree.Nullable(e) != found[""] || min(least, most+1) != shortest {
		t.Errorf("%s is nullable: %v, and has strings of at least %d bytes; the shortest one has %d", show(e), retree.Nullable(e), least, shortest)
	}
	if 0 <= greatest && greatest <= most && (greatest != longest || first != charsetOf(firsts)) {
		t.Errorf("%s has strings of at most %d bytes that begin with %q; the longest one has %d, and they begin with %q", show(e), greatest, bytesOf(first), longest, bytesOf(charsetOf(firsts)))
	}
	for i := range len(firsts) {
		if c := firsts[i]; first.Bits[c/64]>>(c%64)&1 == 0 {
			t.Fatalf("%s has a string that begins with %q", show(e), c)
		}
	}
}

func TestP8_3To5Strings(t *testing.T) {
	for _, e := range validTrees(89, 4000, 4, 3) {
		checkStrings(t, e, 6)
	}
}

func TestP8_3To5Examples(t *testing.T) {
	checkValue(t, cat(a, rep(2, 3, alt(b, cat(set("c"), set("d"))))), value{false, 3, 7, "a"})
	checkValue(t, cat(group(1, a), back(1)), value{false, 2, 2, "a"})
	checkValue(t, rep(0, -1, empty), value{true, 0, 0, ""})
	checkValue(t, rep(0, -1, a), value{true, 0, -1, "a"})
}

func TestP8_3To5ArgumentsAreKept(t *testing.T) {
	args := make([]api.Re, 3, 5)
	args[0], args[1], args[2] = group(1, a), rep(0, 1, b), back(1)
	e := api.Re{Op: api.ReCat, Args: args}
	before := copyOf(e)
	checkValue(t, e, value{false, 2, 3, "a"})
	checkSize(t, e, 6, 1, true)
	if spare := args[:5]; !same(e, before) || !same(spare[3], api.Re{}) || !same(spare[4], api.Re{}) {
		t.Errorf("the argument has changed to %s", show(e))
	}
}
