package recapture_test

import (
	"slices"
	"testing"

	"texttools/api"
	"texttools/recapture"
	"texttools/retree"
)

// checkError checks that Captures returns this error, and nothing else.
func checkError(t *testing.T, name string, e api.Re, s string, whole api.Span, want api.Errno) {
	t.Helper()
	for _, lines := range []bool{false, true} {
		if match, ok, err := recapture.Captures(e, s, whole, lines); err != want || ok || len(match.Spans) != 0 {
			t.Errorf("%s: Captures(%s, %.40q, %v, %v) = %v, %v, %v; want %v", name, show(e), s, whole, lines, match, ok, err, want)
		}
	}
}

// groups returns count groups with the numbers from 1 on.
func groups(count int) []api.Re {
	var list []api.Re
	for i := range count {
		list = append(list, group(i+1, a))
	}
	return list
}

// notCompiled returns trees with each of the errors of reprog.Compile.
func notCompiled() map[api.Errno][]api.Re {
	return map[api.Errno][]api.Re{
		api.ErrType: {
			{}, {Op: -1}, {Op: 10}, {Op: leastInt}, {Op: greatestInt}, {Op: api.ReSet}, cat(), cat(a), alt(), alt(a), {Op: api.ReRep}, {Op: api.ReGroup, Group: 1}, {Op: api.ReRep, Args: []api.Re{a, b}}, {Op: api.ReEmpty, Lo: 1}, {Op: api.ReBegin, Args: []api.Re{a}}, {Op: api.ReCat, Hi: -1, Args: []api.Re{a, b}}, rep(0, 1, api.Re{}), rep(0, 0, api.Re{Op: 99}), alt(a, cat(b, api.Re{Op: 99})), cat(rep(2, 1, a), api.Re{}),
			cat(group(1, a), back(1)), re(`(a*)b\1`), cat(group(1, a), rep(0, 0, back(1))), rep(0, 0, cat(group(1, a), back(1))), cat(append(groups(9), back(9))...), cat(nested(3, 64, 64, a), group(1, a), back(1)),
		},
		api.ErrRange: {
			rep(-1, 1, a), rep(2, 1, a), rep(0, 65, a), rep(65, 65, a), rep(65, -1, a), rep(0, -2, a), rep(leastInt, greatestInt, a), group(0, a), group(2, a), group(-1, a), cat(group(1, a), group(1, a)), cat(group(2, a), group(1, a)), alt(empty, rep(1, 0, a)), rep(0, 0, rep(2, 1, a)), cat(group(1, a), back(1), rep(2, 1, a)),
		},
		api.ErrName: {
			back(1), back(0), back(-1), cat(group(1, a), back(2)), cat(back(1), group(1, a)), group(1, back(1)), cat(group(1, a), back(10)), alt(empty, back(1)), cat(group(1, a), back(1), back(2)),
		},
		api.ErrLimit: {
			cat(several(600, a)...), alt(several(1000, empty)...), cat(groups(10)...), nested(32, 0, 1, a), nested(500, 0, -1, a), cat(append(groups(10), back(1))...),
			nested(3, 64, 64, a), rep(64, 64, rep(64, 64, a)), rep(64, 64, rep(63, 63, empty)), nested(8, 64, 64, group(1, a)),
			rep(63, 63, alt(several(34, empty)...)), cat(append(several(64, a), rep(64, 64, cat(several(21, star(a))...)))...),
		},
	}
}

func TestP13_1ErrorsOfCompile(t *testing.T) {
	checked := 0
	for want, trees := range notCompiled() {
		for _, e := range trees {
			for _, s := range []string{"", "a", "aab\n"} {
				for _, whole := range []api.Span{{From: 0, To: 0}, {From: 0, To: len(s)}, {From: -1, To: 0}, {From: 1, To: 0}, {From: 0, To: 9}, {From: greatestInt, To: leastInt}} {
					checkError(t, "a tree without a program", e, s, whole, want)
					checked++
				}
			}
		}
	}
	if checked < 500 {
		t.Errorf("only %d cases were checked", checked)
	}
	if err := retree.Check(rep(63, 63, alt(several(34, empty)...))); err != api.OK {
		t.Errorf("a tree with too many instructions is not valid: %v", err)
	}
}

func TestP13_1ErrorsOfSpans(t *testing.T) {
	for _, e := range []api.Re{empty, a, begin, end, star(a), re("(a)|(b)*"), group(1, star(set("ab\n")))} {
		for _, s := range []string{"", "a", "\n", "abab"} {
			length := len(s)
			for _, whole := range []api.Span{
				{From: -1, To: -1}, {From: -1, To: 0}, {From: -1, To: length}, {From: -2, To: -1}, {From: leastInt, To: 0}, {From: leastInt, To: greatestInt},
				{From: 1, To: 0}, {From: length, To: length - 1}, {From: 0, To: -1}, {From: length, To: 0 - 1}, {From: 0, To: leastInt}, {From: greatestInt, To: leastInt},
				{From: 0, To: length + 1}, {From: length, To: length + 1}, {From: length + 1, To: length + 1}, {From: length + 1, To: length}, {From: length + 2, To: length + 9}, {From: 0, To: greatestInt}, {From: greatestInt, To: greatestInt},
			} {
				checkError(t, "a span", e, s, whole, api.ErrRange)
			}
		}
	}
}

func TestP13_1ArgumentsAreKept(t *testing.T) {
	for _, e := range []api.Re{re("(a|(b))*(c?)"), cat(group(1, rep(0, 3, alt(a, b, empty))), group(2, rep(2, -1, a))), alt(begin, star(end))} {
		e.Args = append(make([]api.Re, 0, 9), e.Args...)
		before := copyOf(e)
		spare := slices.Clone(e.Args[:cap(e.Args)])
		for _, whole := range spansOf("ababaa") {
			recapture.Captures(e, "ababaa", whole, true)
			recapture.Captures(e, "ababaa", whole, false)
		}
		if !same(e, before) || !slices.EqualFunc(e.Args[:cap(e.Args)], spare, same) {
			t.Errorf("the tree %s became %s", show(before), show(e))
		}
	}
}

func TestP13_1ResultsShareNoMemory(t *testing.T) {
	e, whole := re("(a*)(a|(b))*"), api.Span{From: 0, To: 3}
	one, _, _ := recapture.Captures(e, "aab", whole, false)
	two, _, _ := recapture.Captures(e, "aab", whole, false)
	clear(one.Spans[:cap(one.Spans)])
	three, ok, _ := recapture.Captures(e, "aab", whole, false)
	if want := "0-3 0-2 2-3 2-3"; showMatch(two, true) != want || showMatch(three, ok) != want {
		t.Errorf("after a change of a result: %v, %v", two, three)
	}
}
