package recapture_test

import (
	"fmt"
	"strings"
	"testing"

	"texttools/api"
	"texttools/recapture"
	"texttools/rematch"
	"texttools/reprog"
)

// showMatch writes the spans of a match, - for a group without a span, and nothing without a match.
func showMatch(match api.Match, ok bool) string {
	if !ok && len(match.Spans) != 0 {
		return "no match, but spans"
	}
	var texts []string
	for _, span := range match.Spans {
		text := "-"
		if span != (api.Span{From: -1, To: -1}) {
			text = fmt.Sprintf("%d-%d", span.From, span.To)
		}
		texts = append(texts, text)
	}
	return strings.Join(texts, " ")
}

// checkLines checks Captures for a span, where an empty want means that there is no match.
func checkLines(t *testing.T, e api.Re, s string, from, to int, lines bool, want string) {
	t.Helper()
	match, ok, err := recapture.Captures(e, s, api.Span{From: from, To: to}, lines)
	if got := showMatch(match, ok); err != api.OK || ok != (want != "") || got != want {
		t.Errorf("Captures(%s, %.40q, {%d, %d}, %v) = %s, %v, %v; want %s", show(e), s, from, to, lines, got, ok, err, want)
	}
}

// checkCaptures checks Captures with both values of lines.
func checkCaptures(t *testing.T, e api.Re, s string, from, to int, want string) {
	t.Helper()
	checkLines(t, e, s, from, to, false, want)
	checkLines(t, e, s, from, to, true, want)
}

// A captureCase has the match for one span.
type captureCase struct {
	e        api.Re
	s        string
	from, to int
	want     string
}

func checkCases(t *testing.T, cases []captureCase) {
	t.Helper()
	for _, c := range cases {
		checkCaptures(t, c.e, c.s, c.from, c.to, c.want)
	}
}

func TestP13_1Examples(t *testing.T) {
	checkCases(t, []captureCase{
		{re("(a|ab)(c|bcd)(d*)"), "abcd", 0, 4, "0-4 0-2 2-3 3-4"},
		{re("(a*)(a*)"), "aa", 0, 2, "0-2 0-2 2-2"},
		{re("(a*)(a*)"), "aa", 0, 1, "0-1 0-1 1-1"},
		{re("(a|(b))*"), "ba", 0, 2, "0-2 1-2 -"},
		{re("(a|(b))*"), "ba", 0, 1, "0-1 0-1 0-1"},
		{re("(a*)+"), "b", 0, 0, "0-0 0-0"},
		{re("(a*)*"), "b", 0, 0, "0-0 -"},
		{re("(a)|(ab)"), "ab", 0, 2, "0-2 - 0-2"},
		{re("(a)|(ab)"), "ab", 0, 0, ""},
	})
	checkError(t, "an example", re("(a)|(ab)"), "ab", api.Span{From: 1, To: 3}, api.ErrRange)
}

func TestP13_1Leaves(t *testing.T) {
	checkCases(t, []captureCase{
		{empty, "", 0, 0, "0-0"},
		{empty, "ab", 1, 1, "1-1"},
		{empty, "ab", 2, 2, "2-2"},
		{empty, "ab", 0, 1, ""},
		{empty, "ab", 1, 2, ""},
		{a, "a", 0, 1, "0-1"},
		{a, "ba", 1, 2, "1-2"},
		{a, "ba", 0, 1, ""},
		{a, "aa", 0, 2, ""},
		{a, "aa", 1, 1, ""},
		{a, "aa", 2, 2, ""},
		{a, "", 0, 0, ""},
		{group(1, empty), "ab", 1, 1, "1-1 1-1"},
		{group(1, empty), "ab", 1, 2, ""},
		{group(1, a), "ba", 1, 2, "1-2 1-2"},
		{group(1, a), "ba", 0, 1, ""},
		{group(1, set("\x00\xff\n")), "\x00\xff\n", 0, 1, "0-1 0-1"},
		{group(1, set("\x00\xff\n")), "\x00\xff\n", 1, 2, "1-2 1-2"},
		{group(1, set("\x00\xff\n")), "\x00\xff\n", 2, 3, "2-3 2-3"},
		{group(1, set("\x3f\x40\x7f\x80\xbf\xc0")), "\x41", 0, 1, ""},
		{group(1, group(2, group(3, a))), "a", 0, 1, "0-1 0-1 0-1 0-1"},
		{re("(((((((((b)))))))))"), "ab", 1, 2, "1-2 1-2 1-2 1-2 1-2 1-2 1-2 1-2 1-2 1-2"},
	})
}

func TestP13_1Anchors(t *testing.T) {
	first, last := group(1, begin), group(1, end)
	checkCases(t, []captureCase{
		{first, "ab", 0, 0, "0-0 0-0"},
		{first, "ab", 1, 1, ""},
		{first, "ab", 0, 1, ""},
		{last, "ab", 2, 2, "2-2 2-2"},
		{last, "ab", 1, 1, ""},
		{last, "ab", 1, 2, ""},
		{cat(first, group(2, end)), "", 0, 0, "0-0 0-0 0-0"},
		{re("(^a)|(a$)|(a)"), "aaa", 0, 1, "0-1 0-1 - -"},
		{re("(^a)|(a$)|(a)"), "aaa", 1, 2, "1-2 - - 1-2"},
		{re("(^a)|(a$)|(a)"), "aaa", 2, 3, "2-3 - 2-3 -"},
		{re("(^a)|(a$)|(a)"), "a", 0, 1, "0-1 0-1 - -"},
		{re("(a*)(^a|b)"), "aab", 0, 2, ""},
		{re("(a*)(a$|b)"), "aaa", 0, 2, ""},
		{re("(a*)(a$|b)"), "aaa", 0, 3, "0-3 0-2 2-3"},
		{star(group(1, begin)), "a", 0, 0, "0-0 -"},
		{plus(group(1, begin)), "a", 0, 0, "0-0 0-0"},
		{plus(group(1, begin)), "a", 1, 1, ""},
	})
	for _, c := range []struct {
		e        api.Re
		s        string
		from, to int
		one, all string
	}{
		{first, "a\nb", 2, 2, "2-2 2-2", ""},
		{first, "a\n", 2, 2, "2-2 2-2", ""},
		{first, "a\nb", 1, 1, "", ""},
		{last, "a\nb", 1, 1, "1-1 1-1", ""},
		{last, "\nb", 0, 0, "0-0 0-0", ""},
		{last, "a\nb", 2, 2, "", ""},
		{re("(^b$)"), "a\nb\nc", 2, 3, "2-3 2-3", ""},
		{cat(star(set("ab\n")), group(1, begin), star(set("ab\n"))), "a\nb\nb", 0, 5, "0-5 4-4", "0-5 0-0"},
		{cat(star(set("ab\n")), group(1, end), star(set("ab\n"))), "a\nb\nb", 0, 4, "0-4 3-3", ""},
		{star(alt(group(1, cat(begin, a)), group(2, set("a\n")))), "a\na", 0, 3, "0-3 2-3 -", "0-3 - 2-3"},
	} {
		checkLines(t, c.e, c.s, c.from, c.to, true, c.one)
		checkLines(t, c.e, c.s, c.from, c.to, false, c.all)
	}
}

func TestP13_1Sequences(t *testing.T) {
	checkCases(t, []captureCase{
		{re("(a*)(ab)*(b*)"), "abb", 0, 3, "0-3 0-1 - 1-3"},
		{re("(a?)(ab)?(b*)"), "abb", 0, 3, "0-3 0-1 - 1-3"},
		{re("(a*)(a|b)*"), "aab", 0, 3, "0-3 0-2 2-3"},
		{re("(a*)(a|b)*"), "aab", 0, 2, "0-2 0-2 -"},
		{re("(a*)(a+)"), "aaa", 0, 3, "0-3 0-2 2-3"},
		{re("(a*)(a)(a*)"), "aaa", 0, 3, "0-3 0-2 2-3 3-3"},
		{re("(a?)(a?)(a?)(aa)"), "aaaa", 0, 4, "0-4 0-1 1-2 2-2 2-4"},
		{re("(a|ab)(bc|c)?(c*)"), "abcc", 0, 4, "0-4 0-2 2-3 3-4"},
		{re("(a|ab|abc)(b|bc|c|cd|bcd)"), "abcd", 0, 3, "0-3 0-2 2-3"},
		{re("(a|ab|abc)(b|bc|c|cd|bcd)"), "abcd", 0, 4, "0-4 0-2 2-4"},
		{re("(a|ab|abc)(b|bc|c|cd|bcd)"), "abcd", 0, 2, "0-2 0-1 1-2"},
		{re("(a|ab)()(b?)()"), "ab", 0, 2, "0-2 0-2 2-2 2-2 2-2"},
		{cat(group(1, empty), group(2, star(a)), group(3, empty)), "aa", 0, 2, "0-2 0-0 0-2 2-2"},
		// The end of a part counts for this sequence alone, not for the one around it.
		{cat(group(1, cat(group(2, re("a|ab")), group(3, re("b?c?")))), re("c|bc")), "abc", 0, 3, "0-3 0-2 0-2 2-2"},
		{cat(group(1, cat(group(2, re("a*")), group(3, re("b|ab")))), re("b*")), "aabb", 0, 4, "0-4 0-3 0-2 2-3"},
		{cat(group(1, cat(group(2, a), group(3, re("b*")))), re("bb")), "abbbb", 0, 5, "0-5 0-3 0-1 1-3"},
	})
}

func TestP13_1Choices(t *testing.T) {
	checkCases(t, []captureCase{
		{re("(a)|(a)"), "a", 0, 1, "0-1 0-1 -"},
		{re("(b)|(a)|(a)"), "a", 0, 1, "0-1 - 0-1 -"},
		{re("(a)|(ab)|(a)b"), "ab", 0, 2, "0-2 - 0-2 -"},
		{re("(a)|(ab)|(a)b"), "ab", 0, 1, "0-1 0-1 - -"},
		{re("()|(a*)"), "aa", 0, 0, "0-0 0-0 -"},
		{re("()|(a*)"), "aa", 0, 1, "0-1 - 0-1"},
		{re("(a*)|()"), "aa", 0, 0, "0-0 0-0 -"},
		{alt(a, group(1, a)), "a", 0, 1, "0-1 -"},
		{alt(group(1, a), a), "a", 0, 1, "0-1 0-1"},
		{alt(empty, group(1, empty)), "a", 0, 0, "0-0 -"},
		{alt(b, group(1, a)), "b", 0, 1, "0-1 -"},
		{alt(cat(a, group(1, b)), cat(group(2, a), b)), "ab", 0, 2, "0-2 1-2 -"},
		{alt(alt(b, group(1, c)), alt(group(2, a), group(3, a))), "a", 0, 1, "0-1 - 0-1 -"},
		// What the alternative matches counts, not what it could match in another place.
		{cat(group(1, alt(group(2, re("ab")), group(3, a))), re("bc|b?")), "abc", 0, 3, "0-3 0-1 - 0-1"},
		{cat(group(1, alt(group(2, a), group(3, re("ab")))), re("c|bc")), "abc", 0, 3, "0-3 0-2 - 0-2"},
	})
}

func TestP13_1Repetitions(t *testing.T) {
	checkCases(t, []captureCase{
		{re("(a)*"), "aaa", 0, 3, "0-3 2-3"},
		{re("(a)*"), "aaa", 1, 2, "1-2 1-2"},
		{re("(a)*"), "aaa", 1, 1, "1-1 -"},
		{re("(a)?"), "a", 0, 1, "0-1 0-1"},
		{re("(a)?"), "a", 0, 0, "0-0 -"},
		{re("(a)+"), "a", 0, 0, ""},
		{re("(a*)*"), "aa", 0, 2, "0-2 0-2"},
		{re("(a*)+"), "aa", 0, 2, "0-2 0-2"},
		{re("(a|aa)*"), "aaa", 0, 3, "0-3 2-3"},
		{re("(aa|aaa)*"), "aaaaa", 0, 5, "0-5 3-5"},
		{re("(aa|aaa)*"), "aaaaaaa", 0, 7, "0-7 5-7"},
		{re("(a|ab|b)*"), "abab", 0, 4, "0-4 2-4"},
		{re("(a(b)?)*"), "aba", 0, 3, "0-3 2-3 -"},
		{re("(a(b)?)+"), "aab", 0, 3, "0-3 1-3 2-3"},
		{re("((a)|(b)|(c))*"), "abc", 0, 3, "0-3 2-3 - - 2-3"},
		{re("((a)|(b)|(c))*"), "cba", 0, 3, "0-3 2-3 2-3 - -"},
		{re("(a)*(b)*"), "b", 0, 1, "0-1 - 0-1"},
		{re("((a)*b)*"), "abb", 0, 3, "0-3 2-3 -"},
		{re("((a)*(b)*)*"), "ba", 0, 2, "0-2 1-2 1-2 -"},
		{re("((a*)(b*))*"), "ba", 0, 2, "0-2 1-2 1-2 2-2"},
		{re("(()|a)*"), "a", 0, 1, "0-1 0-1 -"},
		{re("(()|a)*"), "a", 0, 0, "0-0 - -"},
		{re("(()|a)+"), "a", 0, 0, "0-0 0-0 0-0"},
		{re("(()|a)+"), "a", 0, 1, "0-1 0-1 -"},
	})
}

func TestP13_1CountedRepetitions(t *testing.T) {
	checkCases(t, []captureCase{
		{re("(a){3}"), "aaa", 0, 3, "0-3 2-3"},
		{re("(a){3}"), "aaa", 0, 2, ""},
		{re("(a){2}"), "aaa", 0, 3, ""},
		{re("(a){1}"), "a", 0, 1, "0-1 0-1"},
		{re("(a){1}"), "a", 0, 0, ""},
		{rep(0, 0, group(1, a)), "a", 0, 0, "0-0 -"},
		{rep(0, 0, group(1, a)), "a", 0, 1, ""},
		{cat(rep(0, 0, group(1, a)), group(2, a)), "a", 0, 1, "0-1 - 0-1"},
		{re("(a|aa){2}"), "aaa", 0, 3, "0-3 2-3"},
		{re("(a|aa){2}"), "aaaa", 0, 4, "0-4 2-4"},
		{re("(a*){2}"), "aaa", 0, 3, "0-3 3-3"},
		{re("(a*){1}"), "aaa", 0, 3, "0-3 0-3"},
		{re("(a*){1,2}"), "aaa", 0, 3, "0-3 0-3"},
		{re("(a*){2,}"), "aaa", 0, 3, "0-3 3-3"},
		{re("(a*){2,3}"), "", 0, 0, "0-0 0-0"},
		{re("(a*){0,3}"), "", 0, 0, "0-0 -"},
		{re("(a+){2}"), "aaa", 0, 3, "0-3 2-3"},
		{re("(a+){2,}"), "aaa", 0, 3, "0-3 2-3"},
		{re("(a+){2,3}"), "aaaa", 0, 4, "0-4 3-4"},
		{re("(a+){1,3}"), "aaaa", 0, 4, "0-4 0-4"},
		{re("(a|aaa){2,3}"), "aaaaa", 0, 5, "0-5 4-5"},
		{re("(a|aaa){2,3}"), "aaaaaaa", 0, 7, "0-7 6-7"},
		{re("(a|aaa){2,3}"), "aaaaaaaa", 0, 8, ""},
		{re("(a|aab){1,2}"), "aaab", 0, 4, "0-4 1-4"},
		{re("(a|b){3,}"), "abab", 0, 4, "0-4 3-4"},
		{re("(a|b){3,}"), "ab", 0, 2, ""},
		{re("((a)|b){2,3}"), "aba", 0, 3, "0-3 2-3 2-3"},
		{re("((a)|b){2,3}"), "aab", 0, 3, "0-3 2-3 -"},
		{re("((a)|(b)){2}"), "ab", 0, 2, "0-2 1-2 - 1-2"},
		{re("(x{0}|a){2}"), "a", 0, 1, "0-1 1-1"},
		{re("(a{2}){2}"), "aaaa", 0, 4, "0-4 2-4"},
		{re("((a){2,3}){2}"), "aaaaa", 0, 5, "0-5 3-5 4-5"},
	})
	// What the last repetition leaves out is forgotten, what lies behind it is not repeated.
	checkCases(t, []captureCase{
		{rep(2, 2, optional(group(1, a))), "a", 0, 1, "0-1 -"},
		{rep(0, 2, group(1, a)), "a", 0, 1, "0-1 0-1"},
		{rep(1, 2, group(1, a)), "a", 0, 1, "0-1 0-1"},
		{rep(1, 2, optional(group(1, a))), "a", 0, 1, "0-1 0-1"},
		{rep(2, -1, optional(group(1, a))), "a", 0, 1, "0-1 -"},
		{rep(2, -1, star(group(1, a))), "aa", 0, 2, "0-2 -"},
		{rep(3, 5, alt(group(1, a), group(2, empty))), "aa", 0, 2, "0-2 - 2-2"},
		{rep(3, 5, alt(group(1, a), group(2, empty))), "aaaa", 0, 4, "0-4 3-4 -"},
		{rep(2, 3, cat(group(1, a), optional(group(2, b)))), "aba", 0, 3, "0-3 2-3 -"},
		{rep(2, 3, cat(optional(group(1, a)), optional(group(2, b)))), "ab", 0, 2, "0-2 - -"},
	})
	checkCaptures(t, cat(rep(64, 64, group(1, a)), group(2, a)), strings.Repeat("a", 65), 0, 65, "0-65 63-64 64-65")
	checkCaptures(t, cat(rep(0, 64, group(1, a)), group(2, star(a))), strings.Repeat("a", 70), 0, 70, "0-70 63-64 64-70")
	checkCaptures(t, rep(64, -1, group(1, star(a))), strings.Repeat("a", 70), 0, 70, "0-70 70-70")
	checkCaptures(t, rep(64, -1, group(1, plus(a))), strings.Repeat("a", 70), 0, 70, "0-70 69-70")
	checkCaptures(t, rep(64, 64, rep(2, 2, group(1, a))), strings.Repeat("a", 128), 0, 128, "0-128 127-128")
}

// TestP13_1MoreParses has trees with more parses than layer 9 lists.
func TestP13_1MoreParses(t *testing.T) {
	s := strings.Repeat("a", 100)
	for _, c := range []struct{ pattern, want string }{
		{"(a*)(a*)(a*)(a*)", "0-100 0-100 100-100 100-100 100-100"},
		{"(a*)(a+)(a*)(a+)", "0-100 0-98 98-99 99-99 99-100"},
		{"((a*)(a*))*", "0-100 0-100 0-100 100-100"},
		{"(((a|aa)(aaa|a))*)(a*)", "0-100 0-100 95-100 95-97 97-100 100-100"},
		{"(a?)(a|aa)*(a*)", "0-100 0-1 99-100 100-100"},
	} {
		if _, err := rematch.Parses(re(c.pattern), s, 0, false); err != api.ErrBudget {
			t.Errorf("Parses of %s has the error %v", c.pattern, err)
		}
		checkCaptures(t, re(c.pattern), s, 0, 100, c.want)
	}
	checkCaptures(t, re("((a|aa)(aaa|a))*a"), s, 0, 100, "0-100 95-99 95-96 96-99")
	checkCaptures(t, re("((a|aa)(aaa|a))*a"), s, 0, 98, "0-98 95-97 95-96 96-97")
}

func TestP13_1LongTexts(t *testing.T) {
	const size = 1 << 18
	s := strings.Repeat("a", size)
	for _, c := range []struct{ pattern, want string }{
		{"a*", "0-L"},
		{"(a*)(a*)", "0-L 0-L L-L"},
		{"(a|b)*", "0-L L1-L"},
		{"((a)|(b))*", "0-L L1-L L1-L -"},
		{"(a|aa)*", "0-L L2-L"},
		{"((a|b)(a|aa))*", "0-L L2-L L2-L1 L1-L"},
		{"(((a*)*)*)*", "0-L 0-L 0-L 0-L"},
		{"(a|a*b|aa)*", "0-L L2-L"},
		{"(a|a*b)*", "0-L L1-L"},
		{"(a{1,3}){2,}", "0-L L1-L"},
		{"(b*)(a*)(b*)", "0-L 0-0 0-L L-L"},
		{"(a)(a*)(a)", "0-L 0-1 1-L1 L1-L"},
		{"(a)(a*)(b)", ""},
	} {
		want := strings.NewReplacer("L2", fmt.Sprint(size-2), "L1", fmt.Sprint(size-1), "L", fmt.Sprint(size)).Replace(c.want)
		checkLines(t, re(c.pattern), s, 0, size, false, want)
	}
	checkLines(t, re("(x|y)(z)?"), s+"yz", size, size+2, false, fmt.Sprintf("%d-%d %d-%d %d-%d", size, size+2, size, size+1, size+1, size+2))
	checkLines(t, star(alt(group(1, cat(begin, b)), group(2, set("ab\n")))), s+"\nb", 0, size+2, true, fmt.Sprintf("0-%d %d-%d -", size+2, size+1, size+2))
	checkLines(t, star(alt(group(1, cat(begin, b)), group(2, set("ab\n")))), s+"\nb", 0, size+2, false, fmt.Sprintf("0-%d - %d-%d", size+2, size+1, size+2))
}

// TestP13_1GreatestTrees has trees that are as deep, or have as many instructions, as they may be.
func TestP13_1GreatestTrees(t *testing.T) {
	s := strings.Repeat("a", 5000)
	checkLines(t, nested(30, 0, -1, group(1, a)), s, 0, 5000, false, "0-5000 4999-5000")
	checkLines(t, nested(29, 1, -1, group(1, alt(a, empty))), s, 0, 5000, false, "0-5000 4999-5000")
	checkLines(t, nested(29, 1, -1, group(1, alt(a, empty))), s, 7, 7, false, "7-7 7-7")
	checkLines(t, nested(29, 0, 1, group(1, star(a))), s, 0, 5000, false, "0-5000 0-5000")
	checkLines(t, nested(30, 0, 0, group(1, a)), s, 3, 3, false, "3-3 -")
	checkLines(t, nested(30, 1, 1, group(1, a)), s, 3, 4, false, "3-4 3-4")
	checkLines(t, cat(append(several(298, star(a)), group(1, star(a)))...), s, 0, 5000, false, "0-5000 5000-5000")
	checkLines(t, group(1, alt(append(several(590, b), group(2, star(a)))...)), s, 0, 5000, false, "0-5000 0-5000 0-5000")
	checkLines(t, rep(60, 60, cat(append(several(31, optional(b)), group(1, alt(a, empty)))...)), s, 0, 60, false, "0-60 59-60")
	full := cat(append(several(63, a), rep(64, 64, cat(append(several(20, star(a)), group(1, star(a)))...)))...)
	if p, err := reprog.Compile(full, false); len(p.Insts) != api.MaxInsts || err != api.OK {
		t.Errorf("the greatest program has %d instructions, %v", len(p.Insts), err)
	}
	checkLines(t, full, s, 0, 5000, false, "0-5000 5000-5000")
	checkLines(t, full, s, 4937, 5000, false, "4937-5000 5000-5000")
	checkLines(t, full, s, 4938, 5000, false, "")
	// These take too long if each way is tried for itself.
	checkLines(t, cat(nested(27, 0, -1, group(1, alt(a, empty))), b), s, 0, 5000, false, "")
	checkLines(t, cat(nested(27, 0, -1, group(1, alt(a, cat(a, a)))), b), s[:200]+"b", 0, 201, false, "0-201 198-200")
	checkLines(t, nested(8, 0, 2, group(1, alt(a, cat(a, a)))), s, 0, 20, false, "0-20 18-20")
	checkLines(t, nested(8, 0, 2, group(1, alt(a, cat(a, a)))), s, 0, 512, false, "0-512 510-512")
	checkLines(t, nested(8, 0, 2, group(1, alt(a, cat(a, a)))), s, 0, 513, false, "")
	checkLines(t, nested(9, 0, 2, group(1, optional(a))), s, 0, 20, false, "0-20 19-20")
}
