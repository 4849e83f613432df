package retext_test

import (
	"strings"
	"testing"

	"texttools/api"
	"texttools/locale"
	"texttools/retext"
)

// checkPrint checks the pattern of a tree, and that the tree is that of the pattern.
func checkPrint(t *testing.T, e api.Re, want string) {
	t.Helper()
	got, err := retext.Print(e)
	if err != api.OK || got != want {
		t.Errorf("Print(%.300s) = %.300q, %v; want %.300q", show(e), got, err, want)
	}
	checkTree(t, want, extended, locale.Default(), e)
}

func checkPrintError(t *testing.T, e api.Re, want api.Errno) {
	t.Helper()
	if got, err := retext.Print(e); err != want || got != "" {
		t.Errorf("Print(%.300s) = %.300q, %v; want %v", show(e), got, err, want)
	}
}

func TestP7_2Print(t *testing.T) {
	a, b, c := set("a"), set("b"), set("c")
	for want, e := range map[string]api.Re{
		"": empty, "a": a, "ab": cat(a, b), "abc": cat(a, b, c), "a|b": alt(a, b), "a|b|c": alt(a, b, c), "ab|c": alt(cat(a, b), c), "a|bc": alt(a, cat(b, c)), "^": begin, "$": end, "^a$": cat(begin, a, end), "^|$": alt(begin, end), "^^": cat(begin, begin), "$^": cat(end, begin), "a^$b": cat(a, begin, end, b),
		"()": group(1, empty), "(a)": group(1, a), "(ab)": group(1, cat(a, b)), "(a|b)": group(1, alt(a, b)), "(a|b)c": cat(group(1, alt(a, b)), c), "((a)b)(c)": cat(group(1, cat(group(2, a), b)), group(3, c)), "()|()": alt(group(1, empty), group(2, empty)), "(())": group(1, group(2, empty)), "(^)($)": cat(group(1, begin), group(2, end)), "()a": cat(group(1, empty), a),
		"a*": rep(0, -1, a), "(a)*": rep(0, -1, group(1, a)), "()*": rep(0, -1, group(1, empty)), "(ab)+|c": alt(rep(1, -1, group(1, cat(a, b))), c), "(a*)*": rep(0, -1, group(1, rep(0, -1, a))), "ab*": cat(a, rep(0, -1, b)), "a*b": cat(rep(0, -1, a), b), "a*|b": alt(rep(0, -1, a), b), "(a*|b)?": rep(0, 1, group(1, alt(rep(0, -1, a), b))),
		`(a)\1`: cat(group(1, a), back(1)), `(a)\1*`: cat(group(1, a), rep(0, -1, back(1))), `(a)(b)\2\1`: cat(group(1, a), group(2, b), back(2), back(1)), `(a)\11`: cat(group(1, a), back(1), set("1")), `(a)|\1`: alt(group(1, a), back(1)), `((a)\2)`: group(1, cat(group(2, a), back(2))), `(a)(\1)`: cat(group(1, a), group(2, back(1))), `()()()()()()()()()\9`: cat(append(emptyGroups(9), back(9))...),
	} {
		checkPrint(t, e, want)
	}
}

func emptyGroups(count int) []api.Re {
	list := groups(count)
	for i := range list {
		list[i].Args = []api.Re{empty}
	}
	return list
}

func TestP7_2PrintRepetitions(t *testing.T) {
	for _, c := range []struct {
		lo, hi int
		want   string
	}{
		{0, -1, "*"}, {1, -1, "+"}, {0, 1, "?"}, {0, 0, "{0}"}, {1, 1, "{1}"}, {2, 2, "{2}"}, {10, 10, "{10}"}, {64, 64, "{64}"}, {2, -1, "{2,}"}, {3, -1, "{3,}"}, {64, -1, "{64,}"}, {0, 2, "{0,2}"}, {1, 2, "{1,2}"}, {0, 64, "{0,64}"}, {1, 64, "{1,64}"}, {63, 64, "{63,64}"}, {9, 10, "{9,10}"}, {2, 3, "{2,3}"},
	} {
		checkPrint(t, rep(c.lo, c.hi, set("a")), "a"+c.want)
		checkPrint(t, rep(c.lo, c.hi, set("ab")), "[ab]"+c.want)
		checkPrint(t, rep(c.lo, c.hi, but("")), "."+c.want)
		checkPrint(t, rep(c.lo, c.hi, set("*")), `\*`+c.want)
		checkPrint(t, cat(group(1, empty), rep(c.lo, c.hi, back(1)), set("x")), `()\1`+c.want+"x")
		checkPrint(t, rep(c.lo, c.hi, group(1, cat(set("a"), set("b")))), "(ab)"+c.want)
	}
	for lo := range 65 {
		for hi := max(lo, 2); hi <= 64; hi++ {
			want := "a{" + decimal(lo) + "," + decimal(hi) + "}"
			if lo == hi {
				want = "a{" + decimal(lo) + "}"
			}
			checkPrint(t, rep(lo, hi, set("a")), want)
		}
	}
}

func decimal(n int) string {
	if n < 10 {
		return string(rune('0' + n))
	}
	return decimal(n/10) + decimal(n%10)
}

func TestP7_2PrintSets(t *testing.T) {
	for c := range 256 {
		s := string([]byte{byte(c)})
		want, inBracket := s, s
		if strings.Contains(special[true], s) {
			want = `\` + s
		}
		if strings.Contains("[]^-", s) {
			inBracket = "[." + s + ".]"
		}
		checkPrint(t, set(s), want)
		if c < 'A' {
			checkPrint(t, set(s+"\xf0"), "["+inBracket+"\xf0]")
		} else {
			checkPrint(t, set("0"+s), "[0"+inBracket+"]")
		}
	}
	for want, list := range map[string]string{
		"[ab]": "ab", "[a-c]": "abc", "[a-d]": "abcd", "[ac]": "ac", "[abd]": "abd", "[acd]": "acd", "[a-ce]": "abce", "[ac-e]": "acde", "[abde]": "abde", "[a-ce-g]": "abcefg", "[abd-fhi]": "abdefhi", "[1ab]": "1ab", "[0-9A-Z_a-z]": "0123456789ABCDEFGHIJKLMNOPQRSTUVWXYZ_abcdefghijklmnopqrstuvwxyz",
		"[[.-.]a-cx]": "abc-x", "[[.-.].]": "-.", "[,[.-.]]": ",-", "[,-.]": ",-.", "[+-[.-.]]": "+,-", "[[.-.]-/]": "-./", "[[.-.]a]": "-a", "[+[.-.]]": "+-", "[[.[.]a]": "[a", "[Z[.[.]]": "Z[", "[Y-[.[.]]": "YZ[", "[[.[.]-[.].]]": `[\]`, `[[.[.]\]`: `[\`, `[Z-\]`: `Z[\`, "[[.].][.^.]]": "]^", "[[.].]-_]": "]^_", "[[.].]a]": "]a", `[\[.].]]`: `\]`, `[\-[.^.]]`: `\]^`, "[[.^.]_]": "^_", "[[.^.]-`]": "^_`", "[[.^.]a]": "^a", "[[.[.]-[.^.]]": `[\]^`, "[[.[.][.].]]": "[]", "[[.-.][.[.][.].][.^.]]": "-[]^", "[[.-.][.^.]]": "-^", "[[.[.]-_]": `[\]^_`, "[Z-_]": `Z[\]^_`,
		"[:=]": ":=", "[:[.[.]]": ":[", "[:[.].]]": ":]", "[.=]": ".=", "[.[.[.]]": ".[", "[=[.[.]]": "=[", `[\n]`: `\n`, "[*.]": "*.", "[$|]": "$|", "[()]": "()", "[(-*]": "()*", "[{}]": "{}", "[{-}]": "{|}", "[\t\n]": "\t\n", "[\x00-\x02]": "\x00\x01\x02", "[\x00\x01]": "\x00\x01", "[\x00\x02]": "\x00\x02", "[\x00\xff]": "\x00\xff", "[\xfe\xff]": "\xfe\xff", "[\xfd-\xff]": "\xfd\xfe\xff", "[\x7f-\x81]": "\x7f\x80\x81", "[@-B]": "@AB", "[?@]": "?@", "[>-@]": ">?@", "[\xbe-\xc1]": "\xbe\xbf\xc0\xc1",
	} {
		checkPrint(t, set(list), want)
	}
	checkPrint(t, but(""), ".")
	for want, list := range map[string]string{"[\x00-\x09\x0b-\xff]": "\n", "[\x01-\xff]": "\x00", "[\x00-\xfe]": "\xff", "[\x00-,.-\xff]": "-", "[\x00-[.].]_-\xff]": "^", "[\x00-\\[.^.]-\xff]": "]", "[\x00-Z\\-\xff]": "[", "[\x00-`b-\xff]": "a", "[\x00\x02-\xff]": "\x01", "[\x00-\xfd\xff]": "\xfe", "[\x00\x01\x03-\xff]": "\x02", "[\x00-+[.-.]-\xff]": ","} {
		checkPrint(t, but(list), want)
	}
}

// faults has trees that are not normal, each with one fault.
func faults() map[string]api.Re {
	a, b := set("a"), set("b")
	// altered returns the tree after a change.
	altered := func(e api.Re, change func(e *api.Re)) api.Re {
		change(&e)
		return e
	}
	list := map[string]api.Re{
		"Op 0": {}, "Op 10": {Op: 10}, "Op -1": {Op: -1}, "Op 99 with a set": {Op: 99, Set: a.Set}, "Op 0 with a set": {Set: a.Set}, "Op 10 with Args": {Op: 10, Args: []api.Re{a, b}}, "the greatest Op": {Op: 1<<63 - 1}, "the least Op": {Op: -1 << 63},
		"ReCat without Args": cat(), "ReCat of one": cat(a), "ReAlt without Args": alt(), "ReAlt of one": alt(a), "ReRep without Args": {Op: api.ReRep, Hi: -1}, "ReRep of two": {Op: api.ReRep, Hi: -1, Args: []api.Re{a, b}}, "ReGroup without Args": {Op: api.ReGroup, Group: 1}, "ReGroup of two": {Op: api.ReGroup, Group: 1, Args: []api.Re{a, b}},
		"ReCat in ReCat": cat(a, cat(a, b)), "ReCat first in ReCat": cat(cat(a, b), a), "ReAlt in ReCat": cat(a, alt(a, b)), "ReAlt first in ReCat": cat(alt(a, b), a), "ReEmpty in ReCat": cat(a, empty), "ReEmpty first in ReCat": cat(empty, a), "ReEmpty between": cat(a, empty, b), "ReAlt in ReAlt": alt(a, alt(a, b)), "ReAlt first in ReAlt": alt(alt(a, b), a), "ReEmpty in ReAlt": alt(a, empty), "ReEmpty first in ReAlt": alt(empty, a),
		"ReRep of ReEmpty": rep(0, -1, empty), "ReRep of ReCat": rep(0, -1, cat(a, b)), "ReRep of ReAlt": rep(0, -1, alt(a, b)), "ReRep of ReRep": rep(0, -1, rep(0, -1, a)), "ReRep of ReBegin": rep(0, -1, begin), "ReRep of ReEnd": rep(0, -1, end),
		"Lo -1": rep(-1, -1, a), "Lo -1 to 1": rep(-1, 1, a), "Lo 65": rep(65, 65, a), "Lo 65 to -1": rep(65, -1, a), "Hi 65": rep(0, 65, a), "Hi -2": rep(0, -2, a), "Hi less than Lo": rep(2, 1, a), "Hi 0 less than Lo": rep(1, 0, a), "Hi the least": rep(0, -1<<63, a), "Lo the greatest": rep(1<<63-1, -1, a), "Hi the greatest": rep(1, 1<<63-1, a), "Lo and Hi -2": rep(-2, -2, a),
		"an empty set": set(""), "an empty set in ReCat": cat(a, set("")), "an empty set in ReRep": rep(0, 1, set("")),
		"the group 0": group(0, a), "the group 2 first": group(2, a), "the group -1": group(-1, a), "the group 1 twice": cat(group(1, a), group(1, b)), "the group 3 second": cat(group(1, a), group(3, b)), "groups the other way round": cat(group(2, a), group(1, b)), "groups in postorder": group(2, group(1, a)), "the same group within": group(1, group(1, a)), "ten groups": cat(groups(10)...), "groups of ReAlt that are equal": alt(group(1, a), group(1, a)),
		"a reference without a group": back(1), "a reference to 0": cat(group(1, a), back(0)), "a reference to -1": cat(group(1, a), back(-1)), "a reference to 2": cat(group(1, a), back(2)), "a reference to 10": cat(append(groups(9), back(10))...), "a reference to 11": cat(group(1, a), back(11)), "a reference to the greatest": cat(group(1, a), back(1<<63-1)), "a reference to the least": cat(group(1, a), back(-1<<63)), "a reference to an open group": group(1, back(1)), "a reference within a group": group(1, cat(a, back(1))), "a reference deep in its group": group(1, cat(group(2, a), back(2), back(1))), "a reference before its group": cat(back(1), group(1, a)), "a reference in a repetition of its group": rep(0, 1, group(1, rep(0, 1, back(1)))), "a reference to a later group": cat(group(1, a), back(2), group(2, b)),
		"33 levels": leveled(33), "34 levels": leveled(34),
	}
	for name, e := range map[string]api.Re{"ReEmpty": empty, "ReSet": a, "ReCat": cat(a, b), "ReAlt": alt(a, b), "ReRep": rep(2, 3, a), "ReGroup": group(1, a), "ReBegin": begin, "ReEnd": end, "ReBack": back(1)} {
		wrap := func(e api.Re) api.Re { return e }
		if e.Op == api.ReBack {
			wrap = func(e api.Re) api.Re { return cat(group(1, a), e) }
		}
		if e.Op != api.ReSet {
			list[name+" with a set"] = wrap(altered(e, func(e *api.Re) { e.Set.Bits[3] = 1 << 63 }))
			list[name+" with another set"] = wrap(altered(e, func(e *api.Re) { e.Set.Bits[0] = 1 }))
		}
		if e.Op != api.ReRep {
			list[name+" with Lo"] = wrap(altered(e, func(e *api.Re) { e.Lo = 1 }))
			list[name+" with Hi"] = wrap(altered(e, func(e *api.Re) { e.Hi = -1 }))
			list[name+" with both"] = wrap(altered(e, func(e *api.Re) { e.Lo, e.Hi = 1, -1 }))
		}
		if e.Op != api.ReGroup && e.Op != api.ReBack {
			list[name+" with a group"] = altered(e, func(e *api.Re) { e.Group = 1 })
			list[name+" with the group -1"] = altered(e, func(e *api.Re) { e.Group = -1 })
		}
		if len(e.Args) == 0 {
			list[name+" with Args"] = wrap(altered(e, func(e *api.Re) { e.Args = []api.Re{a} }))
			list[name+" with two Args"] = wrap(altered(e, func(e *api.Re) { e.Args = []api.Re{a, b} }))
		}
	}
	return list
}

// leveled returns a tree of this number of levels, which is normal but for it. It is at least 3.
func leveled(count int) api.Re {
	within := set("z")
	for range (count - 1) % 4 {
		within = map[int]api.Re{api.ReSet: rep(1, -1, within), api.ReRep: cat(set("y"), within), api.ReCat: alt(within, set("x"))}[within.Op]
	}
	for number := (count - 1) / 4; number > 0; number-- {
		within = alt(cat(rep(0, -1, group(number, within)), set("y")), set("x"))
	}
	return within
}

func TestP7_2NotNormal(t *testing.T) {
	for name, e := range faults() {
		t.Run(name, func(t *testing.T) {
			checkPrintError(t, e, api.ErrType)
			if isNormal(e) {
				t.Errorf("%s is normal", show(e))
			}
			for _, whole := range []api.Re{cat(set("x"), e), cat(e, set("x")), alt(set("x"), e), alt(e, set("x")), alt(cat(set("x"), e, set("y")), set("z"))} {
				checkPrintError(t, whole, api.ErrType)
			}
			if e.Op != api.ReGroup {
				checkPrintError(t, cat(set("x"), group(1, e)), api.ErrType)
			}
		})
	}
	for count := 5; count <= 32; count++ {
		if pattern, err := retext.Print(leveled(count)); err != api.OK || !isNormal(leveled(count)) {
			t.Errorf("Print of a tree of %d levels = %q, %v", count, pattern, err)
		}
	}
	checkPrint(t, cat(groups(9)...), "(a)(a)(a)(a)(a)(a)(a)(a)(a)")
}

func TestP7_2TreesThatContainThemselves(t *testing.T) {
	for _, op := range []int{api.ReGroup, api.ReRep, api.ReCat, api.ReAlt} {
		args := make([]api.Re, 2)
		args[0] = api.Re{Op: op, Args: args}
		args[1] = api.Re{Op: op, Args: args[1:]}
		checkNoPattern(t, args[0])
		checkNoPattern(t, args[1])
	}
	args := []api.Re{rep(0, -1, empty), group(1, empty)}
	args[0].Args[0] = api.Re{Op: api.ReGroup, Group: 1, Args: []api.Re{{Op: api.ReAlt, Args: args}}}
	checkNoPattern(t, args[0])
}

// checkNoPattern checks that there is no pattern for a tree that cannot be shown.
func checkNoPattern(t *testing.T, e api.Re) {
	t.Helper()
	if got, err := retext.Print(e); err != api.ErrType || got != "" {
		t.Errorf("Print of a tree that contains itself = %q, %v", got, err)
	}
}

func TestP7_2PrintLimit(t *testing.T) {
	a := set("a")
	long := func(count int) []api.Re { return repeated(a, count) }
	for _, c := range []struct {
		name          string
		fits, exceeds api.Re
	}{
		{"bytes", cat(long(256)...), cat(long(257)...)},
		{"escapes", cat(repeated(set("*"), 128)...), cat(append(repeated(set("*"), 128), a)...)},
		{"alternatives", alt(append(long(127), cat(a, a))...), alt(append(long(127), cat(a, a, a))...)},
		{"separators", alt(append(long(127), cat(a, a))...), alt(long(129)...)},
		{"a group", group(1, cat(long(254)...)), group(1, cat(long(255)...))},
		{"a suffix", cat(append(long(254), rep(0, -1, a))...), cat(append(long(255), rep(0, -1, a))...)},
		{"bounds", cat(append(long(248), rep(10, 20, a))...), cat(append(long(249), rep(10, 20, a))...)},
		{"a bracket", cat(append(long(252), set("ac"))...), cat(append(long(253), set("ac"))...)},
		{"an empty group", cat(append(long(254), group(1, empty))...), cat(append(long(255), group(1, empty))...)},
		{"anchors", cat(append(long(255), end)...), cat(append(long(256), end)...)},
		{"a reference", cat(append(append([]api.Re{group(1, a)}, long(251)...), back(1))...), cat(append(append([]api.Re{group(1, a)}, long(252)...), back(1))...)},
		{"a repeated group", rep(2, 2, group(1, cat(long(251)...))), rep(2, 2, group(1, cat(long(252)...)))},
	} {
		pattern, err := retext.Print(c.fits)
		if err != api.OK || len(pattern) != 256 {
			t.Errorf("%s: Print = %.20q of %d bytes, %v", c.name, pattern, len(pattern), err)
		}
		checkTree(t, pattern, extended, locale.Default(), c.fits)
		checkPrintError(t, c.exceeds, api.ErrLimit)
		checkPrintError(t, cat(c.exceeds, empty), api.ErrType)
	}
	checkPrintError(t, cat(long(100000)...), api.ErrLimit)
	checkPrintError(t, cat(append(long(100000), empty)...), api.ErrType)
	checkPrintError(t, alt(repeated(cat(long(2000)...), 2000)...), api.ErrLimit)
	checkPrintError(t, alt(append(repeated(cat(long(2000)...), 2000), back(1))...), api.ErrType)
}

// everySecond returns the set of every second byte, whose bracket is the longest one of single bytes.
func everySecond(first int) api.Re {
	var list []byte
	for c := first; c < 256; c += 2 {
		list = append(list, byte(c))
	}
	return set(string(list))
}

func TestP7_2LongBrackets(t *testing.T) {
	// The even bytes have the ^, the odd ones have -, [ and ].
	for first, size := range map[int]int{0: 128 + 2 + 4, 1: 128 + 2 + 3*4} {
		pattern, err := retext.Print(everySecond(first))
		if err != api.OK || len(pattern) != size {
			t.Errorf("the bracket of every second byte from %d on is %q, %v", first, pattern, err)
		}
		checkTree(t, pattern, extended, locale.Default(), everySecond(first))
	}
	checkPrintError(t, cat(everySecond(0), everySecond(0)), api.ErrLimit)
}

func TestP7_2ArgumentsAreKept(t *testing.T) {
	args := make([]api.Re, 2, 4)
	args[0], args[1] = set("a"), rep(0, 1, group(1, empty))
	e := alt(cat(args...), set("abd"))
	e.Args[0].Args = args
	checkPrint(t, e, "a()?|[abd]")
	if spare := args[:4]; !same(e, alt(cat(set("a"), rep(0, 1, group(1, empty))), set("abd"))) || !same(spare[2], api.Re{}) || !same(spare[3], api.Re{}) {
		t.Errorf("Print has changed its argument to %s", show(e))
	}
	checkPrint(t, api.Re{Op: api.ReBegin, Args: []api.Re{}}, "^")
	checkPrint(t, api.Re{Op: api.ReEmpty, Args: make([]api.Re, 0, 3)}, "")
}

func TestP7_2Examples(t *testing.T) {
	checkPrint(t, set("abc-x"), "[[.-.]a-cx]")
}
