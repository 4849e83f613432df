package rematch_test

import (
	"math/rand"
	"slices"
	"strings"
	"testing"

	"texttools/api"
	"texttools/rematch"
)

// showMatch writes the spans of a match, and nothing without one.
func showMatch(match api.Match, ok bool) string {
	if !ok && len(match.Spans) != 0 {
		return "no match, but spans"
	}
	return strings.Join(showSpans(match.Spans), " ")
}

func checkAt(t *testing.T, name string, e api.Re, s string, at int, want string) {
	t.Helper()
	match, ok, err := rematch.At(e, s, at, false)
	if err != api.OK || ok != (want != "") || showMatch(match, ok) != want {
		t.Errorf("%s: At(%s, %.40q, %d) = %s, %v, %v; want %s", name, show(e), s, at, showMatch(match, ok), ok, err, want)
	}
}

func checkLeftmost(t *testing.T, name string, e api.Re, s string, from int, want string) {
	t.Helper()
	match, ok, err := rematch.Leftmost(e, s, from, false)
	if err != api.OK || ok != (want != "") || showMatch(match, ok) != want {
		t.Errorf("%s: Leftmost(%s, %.40q, %d) = %s, %v, %v; want %s", name, show(e), s, from, showMatch(match, ok), ok, err, want)
	}
}

func TestP9_2At(t *testing.T) {
	for _, c := range []struct {
		e    api.Re
		s    string
		at   int
		want string
	}{
		{re("(a*)(a|b)*"), "aab", 0, "0-3 0-2 2-3"},
		{re("(a|ab)(c|bcd)(d*)"), "abcd", 0, "0-4 0-2 2-3 3-4"},
		{re("(a*)*"), "b", 0, "0-0 -"},
		{re("(a*)+"), "b", 0, "0-0 0-0"},
		{re("(a|(b))*"), "ba", 0, "0-2 1-2 -"},
		{re(`(a*)\1`), "aaaa", 0, "0-4 0-2"},
		{empty, "", 0, "0-0"},
		{empty, "ab", 2, "2-2"},
		{a, "ba", 1, "1-2"},
		{a, "ba", 0, ""},
		{a, "ba", 2, ""},
		{a, "", 0, ""},
		{re("(a)|(b)"), "c", 0, ""},
		{re("(a)|(b)"), "ab", 1, "1-2 - 1-2"},
		{re("a|ab"), "ab", 0, "0-2"},
		{re("(a)|(a)"), "a", 0, "0-1 0-1 -"},
		{re("(a)|(ab)|(a)b"), "ab", 0, "0-2 - 0-2 -"},
		{re("(a*)(ab)*(b*)"), "abb", 0, "0-3 0-1 - 1-3"},
		{re("(a?)(ab)?(b*)"), "abb", 0, "0-3 0-1 - 1-3"},
		{re("^(a)|b$"), "ab", 1, "1-2 -"},
		{re("(((((((((b)))))))))"), "ab", 1, "1-2 1-2 1-2 1-2 1-2 1-2 1-2 1-2 1-2 1-2"},
		{rep(0, 0, group(1, group(2, a))), "a", 0, "0-0 - -"},
		{cat(star(a), b), "aac", 0, ""},
		{re("a*b"), "aaab", 2, "2-4"},
	} {
		checkAt(t, "a match", c.e, c.s, c.at, c.want)
	}
	if match, ok, err := rematch.At(cat(begin, b, end), "a\nb\nc", 2, true); err != api.OK || showMatch(match, ok) != "2-3" {
		t.Errorf("a line: %v, %v, %v", match, ok, err)
	}
	if match, ok, err := rematch.At(cat(begin, b, end), "a\nb\nc", 2, false); err != api.OK || ok || len(match.Spans) != 0 {
		t.Errorf("no line: %v, %v, %v", match, ok, err)
	}
}

func TestP9_3Leftmost(t *testing.T) {
	for _, c := range []struct {
		e    api.Re
		s    string
		from int
		want string
	}{
		{re("b*c"), "abbbc", 0, "1-5"},
		{re("b*c"), "abbbc", 1, "1-5"},
		{re("b*c"), "abbbc", 2, "2-5"},
		{re("b*c"), "abbbc", 4, "4-5"},
		{re("b*c"), "abbbc", 5, ""},
		{re("b*"), "abbbc", 0, "0-0"},
		{re("b*"), "abbbc", 1, "1-4"},
		{re("b*"), "abbbc", 5, "5-5"},
		{empty, "", 0, "0-0"},
		{empty, "ab", 1, "1-1"},
		{empty, "ab", 2, "2-2"},
		{a, "", 0, ""},
		{a, "bbb", 0, ""},
		{a, "bbb", 3, ""},
		{a, "bba", 0, "2-3"},
		{a, "aba", 1, "2-3"},
		{a, "aba", 3, ""},
		{begin, "ab", 0, "0-0"},
		{begin, "ab", 1, ""},
		{begin, "ab", 2, ""},
		{begin, "a\nb", 1, ""},
		{end, "ab", 0, "2-2"},
		{end, "ab", 2, "2-2"},
		{end, "a\nb", 0, "3-3"},
		{re("(a|ab)(c|bcd)(d*)"), "xabcd", 0, "1-5 1-3 3-4 4-5"},
		{re("(a)|bc"), "bbca", 0, "1-3 -"},
		{re("(a)|bc"), "bbca", 2, "3-4 3-4"},
		{re(`(a|b)\1`), "abab", 0, ""},
		{re(`(a|b)\1`), "ababba", 0, "3-5 3-4"},
		{re("ab|aab|b"), "caab", 0, "1-4"},
		{re("(x|y)(z)?"), strings.Repeat("a", 60000) + "yz", 0, "60000-60002 60000-60001 60001-60002"},
	} {
		checkLeftmost(t, "a match", c.e, c.s, c.from, c.want)
	}
	for from, want := range []string{"0-0", "2-2", "2-2", "3-3", "5-5", "5-5"} {
		if match, ok, err := rematch.Leftmost(begin, "a\n\nb\n", from, true); err != api.OK || showMatch(match, ok) != want {
			t.Errorf("the beginnings of lines, from %d: %v, %v, %v", from, match, ok, err)
		}
	}
	for from, want := range []string{"1-1", "1-1", "2-2", "4-4", "4-4", "5-5"} {
		if match, ok, err := rematch.Leftmost(end, "a\n\nb\n", from, true); err != api.OK || showMatch(match, ok) != want {
			t.Errorf("the ends of lines, from %d: %v, %v, %v", from, match, ok, err)
		}
	}
}

func TestP9_3RandomTrees(t *testing.T) {
	random := rand.New(rand.NewSource(931))
	found, missed, later := 0, 0, 0
	for _, e := range validTrees(932, 10000, 5) {
		s, lines := randomString(random, 9), random.Intn(2) == 0
		for from := range len(s) + 1 {
			want, wantOk, wantErr := api.Match{}, false, api.OK
			at := from
			for ; at <= len(s) && !wantOk && wantErr == api.OK; at++ {
				want, wantOk, wantErr = rematch.At(e, s, at, lines)
			}
			got, ok, err := rematch.Leftmost(e, s, from, lines)
			if err != wantErr || ok != wantOk || !slices.Equal(got.Spans, want.Spans) {
				t.Fatalf("Leftmost(%s, %q, %d, %v) = %v, %v, %v; want %v, %v, %v", show(e), s, from, lines, got, ok, err, want, wantOk, wantErr)
			}
			switch {
			case !ok:
				missed++
			case at > from+1:
				later++
			default:
				found++
			}
		}
	}
	if found < 5000 || missed < 5000 || later < 4000 {
		t.Errorf("%d matches were found at once, %d later, %d never", found, later, missed)
	}
}
