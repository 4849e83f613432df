package rematch_test

import (
	"fmt"
	"math/rand"
	"slices"
	"strings"
	"testing"

	"texttools/api"
	"texttools/rematch"
	"texttools/retree"
)

// showParses writes parses as their ends, each with the spans of the groups, and - for a group without a span.
func showParses(list []api.Parse) string {
	var texts []string
	for _, p := range list {
		texts = append(texts, strings.Join(append([]string{fmt.Sprint(p.End)}, showSpans(p.Spans)...), " "))
	}
	return strings.Join(texts, ", ")
}

func showSpans(spans []api.Span) []string {
	var texts []string
	for _, span := range spans {
		if span == (api.Span{From: -1, To: -1}) {
			texts = append(texts, "-")
			continue
		}
		texts = append(texts, fmt.Sprintf("%d-%d", span.From, span.To))
	}
	return texts
}

func checkParses(t *testing.T, e api.Re, s string, at int, lines bool, want string) {
	t.Helper()
	got, err := rematch.Parses(e, s, at, lines)
	if err != api.OK || showParses(got) != want {
		t.Errorf("Parses(%s, %.60q, %d, %v) = %.600s, %v; want %s", show(e), s, at, lines, showParses(got), err, want)
	}
}

func checkParsesError(t *testing.T, e api.Re, s string, at int, lines bool, want api.Errno) {
	t.Helper()
	if got, err := rematch.Parses(e, s, at, lines); err != want || len(got) != 0 {
		t.Errorf("Parses(%.600s, %.60q, %d, %v) = %.100s, %v; want %v", show(e), s, at, lines, showParses(got), err, want)
	}
}

// A parsesCase has the parses of a pattern at each of the first offsets of a string, with ; between the offsets.
type parsesCase struct {
	e    api.Re
	s    string
	want string
}

func checkCases(t *testing.T, lines bool, cases []parsesCase) {
	t.Helper()
	for _, c := range cases {
		for at, want := range strings.Split(c.want, "; ") {
			checkParses(t, c.e, c.s, at, lines, strings.Trim(want, " "))
		}
	}
}

func TestP9_1Examples(t *testing.T) {
	checkParses(t, re("(a|ab)(b?)"), "abb", 0, false, "3 0-2 2-3, 2 0-2 2-2, 2 0-1 1-2, 1 0-1 1-1")
	checkParses(t, re("(a*)*"), "b", 0, false, "0 -")
	checkParses(t, re("(a*)+"), "b", 0, false, "0 0-0")
	checkParses(t, re("(a|(b))*"), "ba", 0, false, "2 1-2 -, 1 0-1 0-1, 0 - -")
	checkParses(t, re(`(a*)\1`), "aaaa", 0, false, "4 0-2, 2 0-1, 0 0-0")
	checkParses(t, re("(a*)(a|b)*"), "aab", 0, false, "3 0-2 2-3, 3 0-1 2-3, 3 0-0 2-3, 2 0-2 -, 2 0-1 1-2, 2 0-0 1-2, 1 0-1 -, 1 0-0 0-1, 0 0-0 -")
	checkParses(t, re("b*c"), "abbbc", 1, false, "5")
	checkParses(t, re("(a|ab)(c|bcd)(d*)"), "abcd", 0, false, "4 0-2 2-3 3-4, 4 0-1 1-4 4-4, 3 0-2 2-3 3-3")
}

func TestP9_1Leaves(t *testing.T) {
	checkCases(t, false, []parsesCase{
		{empty, "", "0"},
		{empty, "a\n", "0; 1; 2"},
		{a, "", ""},
		{a, "aba", "1; ; 3; "},
		{set("ab"), "abc", "1; 2; ; "},
		{set("\x00"), "\x00a\x00", "1; ; 3; "},
		{set("\n"), "\na\n", "1; ; 3; "},
		{set("\x3f\x40\x7f\x80\xbf\xc0\xff"), "\x3f\x40\x7f\x80\xbf\xc0\xff\x3e\x41\x7e\x81\xbe\xc1\xfe", "1; 2; 3; 4; 5; 6; 7; ; ; ; ; ; ; ; "},
		{begin, "", "0"},
		{begin, "ab", "0; ; "},
		{begin, "a\nb", "0; ; ; "},
		{begin, "\n\n", "0; ; "},
		{end, "", "0"},
		{end, "ab", "; ; 2"},
		{end, "a\nb", "; ; ; 3"},
		{end, "\n\n", "; ; 2"},
	})
}

func TestP9_1Lines(t *testing.T) {
	checkCases(t, true, []parsesCase{
		{begin, "", "0"},
		{begin, "ab", "0; ; "},
		{begin, "a\nb", "0; ; 2; "},
		{begin, "a\n", "0; ; 2"},
		{begin, "\na", "0; 1; "},
		{begin, "\n\n", "0; 1; 2"},
		{begin, "a\n\nb", "0; ; 2; 3; "},
		{begin, "a\rb\x0bc", "0; ; ; ; ; "},
		{end, "", "0"},
		{end, "ab", "; ; 2"},
		{end, "a\nb", "; 1; ; 3"},
		{end, "a\n", "; 1; 2"},
		{end, "\na", "0; ; 2"},
		{end, "\n\n", "0; 1; 2"},
		{end, "a\n\nb", "; 1; 2; ; 4"},
		{end, "a\rb\x0bc", "; ; ; ; ; 5"},
		{cat(begin, end), "\na\n\nb\n", "0; ; ; 3; ; ; 6"},
		{cat(begin, star(set("ab")), end), "ab\nb\n", "2; ; ; 4; ; 5"},
		{cat(end, set("\n"), begin), "a\nb\n", "; 2; ; 4; "},
		{star(cat(begin, set("ab\n"), star(a))), "a\nb", "1, 0; 1; 3, 2; 3"},
		{re("(^a|b$|\n)*"), "a\nb", "3 2-3, 2 1-2, 1 0-1, 0 -; 3 2-3, 2 1-2, 1 -; 3 2-3, 2 -; 3 -"},
	})
	checkCases(t, false, []parsesCase{
		{cat(begin, end), "\na\n\nb\n", "; ; ; ; ; ; "},
		{cat(begin, set("a\n"), star(set("ab\n")), end), "ab\nb\n", "5; ; ; ; ; "},
		{cat(end, set("\n"), begin), "a\nb\n", "; ; ; ; "},
		{re("(^a|b$|\n)*"), "a\nb", "3 2-3, 2 1-2, 1 0-1, 0 -; 3 2-3, 2 1-2, 1 -; 3 2-3, 2 -; 3 -"},
		{re("(^a|b$|\n)*"), "\na\nb", "1 0-1, 0 -; 1 -; 4 3-4, 3 2-3, 2 -"},
	})
}

func TestP9_1Sequences(t *testing.T) {
	checkCases(t, false, []parsesCase{
		{re("ab"), "abab", "2; ; 4; ; "},
		{re("abc"), "abab", "; ; ; ; "},
		{cat(empty, empty), "a", "0; 1"},
		{cat(empty, a, empty, b, empty), "ab", "2; ; "},
		{re("a*a*"), "aa", "2, 1, 0; 2, 1; 2"},
		{re("a*ab*"), "aab", "3, 2, 1; 3, 2; "},
		{re("(a*)(a*)"), "aa", "2 0-2 2-2, 2 0-1 1-2, 2 0-0 0-2, 1 0-1 1-1, 1 0-0 0-1, 0 0-0 0-0"},
		{re("(a?)(ab)?(b*)"), "ab", "2 0-1 - 1-2, 2 0-0 0-2 2-2, 1 0-1 - 1-1, 0 0-0 - 0-0"},
		{re("(a|ab)(b|c)?"), "abc", "3 0-2 2-3, 2 0-2 -, 2 0-1 1-2, 1 0-1 -"},
		{re("^a*$"), "aa", "2; ; "},
		{re("a$b"), "ab", ""},
		{re("a^b"), "ab", ""},
	})
}

func TestP9_1Alternatives(t *testing.T) {
	checkCases(t, false, []parsesCase{
		{re("a|b"), "abc", "1; 2; ; "},
		{re("a|ab|abc"), "abc", "3, 2, 1; ; "},
		{re("abc|a|ab"), "abc", "3, 2, 1; ; "},
		{alt(empty, a, empty), "a", "1, 0; 1"},
		{re("(a)|(a)"), "a", "1 0-1 -, 1 - 0-1; "},
		{re("(b)|(a)|(a)"), "a", "1 - 0-1 -, 1 - - 0-1; "},
		{re("(a)|(ab)|(a)"), "ab", "2 - 0-2 -, 1 0-1 - -, 1 - - 0-1; "},
		{re("(a*)|(a*)"), "a", "1 0-1 -, 1 - 0-1, 0 0-0 -, 0 - 0-0; 1 1-1 -, 1 - 1-1"},
		{re("((a)|b|(ab))(b|())"), "ab", "2 0-2 - 0-2 2-2 2-2, 2 0-1 0-1 - 1-2 -, 1 0-1 0-1 - 1-1 1-1; 2 1-2 - - 2-2 2-2"},
		{alt(begin, end), "ab", "0; ; 2"},
		{alt(begin, end, begin), "", "0"},
	})
}

func TestP9_1Groups(t *testing.T) {
	checkCases(t, false, []parsesCase{
		{group(1, empty), "a", "0 0-0; 1 1-1"},
		{group(1, a), "ba", "; 2 1-2; "},
		{group(1, begin), "a", "0 0-0; "},
		{group(1, end), "a", "; 1 1-1"},
		{group(1, group(2, group(3, a))), "a", "1 0-1 0-1 0-1; "},
		{group(1, cat(a, group(2, b), group(3, empty))), "ab", "2 0-2 1-2 2-2; "},
		{re("a(b)c"), "abc", "3 1-2"},
		{re("(a)(b)(c)(a)(b)(c)(a)(b)(c)"), "abcabcabc", "9 0-1 1-2 2-3 3-4 4-5 5-6 6-7 7-8 8-9"},
		{re("(((((((((a)))))))))"), "a", "1 0-1 0-1 0-1 0-1 0-1 0-1 0-1 0-1 0-1"},
		{re("(a)|(b)|(c)|(d)|(e)|(f)|(g)|(h)|(i)"), "i", "1 - - - - - - - - 0-1"},
	})
	spans := []int{0, 1, 2, 3, 4, 5, 6, 7, 8, 9}
	for _, count := range spans {
		parts := []api.Re{a, a}
		for k := range count {
			parts = append(parts, group(k+1, a))
		}
		got, err := rematch.Parses(cat(parts...), strings.Repeat("a", 20), 3, false)
		if err != api.OK || len(got) != 1 || len(got[0].Spans) != count {
			t.Errorf("with %d groups: %s, %v", count, showParses(got), err)
		}
	}
}

func TestP9_1Repetitions(t *testing.T) {
	checkCases(t, false, []parsesCase{
		{rep(0, 0, a), "aa", "0; 1; 2"},
		{rep(0, 0, group(1, a)), "a", "0 -; 1 -"},
		{rep(0, 1, a), "aa", "1, 0; 2, 1; 2"},
		{rep(1, 1, a), "aa", "1; 2; "},
		{rep(0, 2, a), "aaa", "2, 1, 0; 3, 2, 1; 3, 2; 3"},
		{rep(1, 2, a), "aaa", "2, 1; 3, 2; 3; "},
		{rep(2, 2, a), "aaa", "2; 3; ; "},
		{rep(2, 3, a), "aaaa", "3, 2; 4, 3; 4; ; "},
		{star(a), "aab", "2, 1, 0; 2, 1; 2; 3"},
		{rep(1, -1, a), "aab", "2, 1; 2; ; "},
		{rep(2, -1, a), "aaaa", "4, 3, 2; 4, 3; 4; ; "},
		{rep(3, -1, group(1, set("ab"))), "abab", "4 3-4, 3 2-3; 4 3-4; ; ; "},
		{star(re("ab|a|b")), "ab", "2, 1, 0; 2, 1; 2"},
		{re("(ab|a|b)*"), "ab", "2 0-2, 2 1-2, 1 0-1, 0 -; 2 1-2, 1 -; 2 -"},
		{re("(a|ab|b){2}"), "abab", "4 2-4, 3 2-3, 2 1-2"},
		{re("(a|ab|b){1,2}"), "ab", "2 0-2, 2 1-2, 1 0-1"},
		{re("(a|aa){2,3}"), "aaaaa", "5 4-5, 5 3-5, 4 2-4, 4 3-4, 3 2-3, 3 1-3, 2 1-2"},
		{re("(a){0}b"), "b", "1 -"},
		{re("(a?){0,1}"), "a", "1 0-1, 0 -"},
	})
	long := strings.Repeat("a", 70)
	for _, bounds := range [][2]int{{0, 64}, {64, 64}, {1, 64}, {63, 64}, {64, -1}, {63, -1}, {1, -1}, {0, 63}, {0, -1}} {
		var texts []string
		for count := 70; count >= bounds[0]; count-- {
			if bounds[1] == -1 || count <= bounds[1] {
				texts = append(texts, fmt.Sprint(count, " ", count-1, "-", count))
			}
		}
		if bounds[0] == 0 {
			texts[len(texts)-1] = "0 -"
		}
		checkParses(t, rep(bounds[0], bounds[1], group(1, a)), long, 0, false, strings.Join(texts, ", "))
	}
}

func TestP9_1EmptyRepetitions(t *testing.T) {
	checkCases(t, false, []parsesCase{
		{star(empty), "a", "0; 1"},
		{rep(1, -1, empty), "a", "0; 1"},
		{rep(64, 64, empty), "a", "0; 1"},
		{rep(64, -1, begin), "a", "0; "},
		{rep(0, 64, end), "a", "0; 1"},
		{rep(0, -1, end), "a", "0; 1"},
		{rep(1, -1, end), "a", "; 1"},
		{re("()*"), "a", "0 -; 1 -"},
		{re("()?"), "a", "0 -; 1 -"},
		{re("()+"), "a", "0 0-0; 1 1-1"},
		{re("(){1}"), "a", "0 0-0; 1 1-1"},
		{re("(){3}"), "a", "0 0-0; 1 1-1"},
		{re("(a*)*"), "a", "1 0-1, 0 -; 1 -"},
		{re("(a*)+"), "a", "1 0-1, 0 0-0; 1 1-1"},
		{re("(a*){1}"), "a", "1 0-1, 0 0-0"},
		{re("(a*){2}"), "a", "1 1-1, 1 0-1, 0 0-0"},
		{re("(a*){2,3}"), "a", "1 1-1, 1 0-1, 0 0-0"},
		{re("(a*){2,}"), "a", "1 1-1, 1 0-1, 0 0-0"},
		{re("(a*){0,2}"), "aa", "2 0-2, 2 1-2, 1 0-1, 0 -"},
		{re("(a*){1,2}"), "aa", "2 0-2, 2 1-2, 1 0-1, 0 0-0"},
		{re("(a?b?)*"), "ab", "2 0-2, 2 1-2, 1 0-1, 0 -; 2 1-2, 1 -; 2 -"},
		{re("(a|())*"), "aa", "2 1-2 -, 1 0-1 -, 0 - -"},
		{re("(a|()){2}"), "aa", "2 1-2 -, 1 1-1 1-1, 1 0-1 -, 0 0-0 0-0"},
		{re("(()|a){2}"), "aa", "2 1-2 -, 1 1-1 1-1, 1 0-1 -, 0 0-0 0-0"},
		{re("(()|a)+"), "aa", "2 1-2 -, 1 0-1 -, 0 0-0 0-0"},
		{re("(^|a)+"), "aa", "2 1-2, 1 0-1, 0 0-0; 2 1-2; "},
		{re("(^|a){2}"), "aa", "2 1-2, 1 0-1, 0 0-0; "},
		{re("(a|$){2}"), "a", "1 1-1; 1 1-1"},
		{re("((a*)*)*"), "b", "0 - -"},
		{re("((a*)*)+"), "b", "0 0-0 -"},
		{re("((a*)+)*"), "b", "0 - -"},
		{re("((a*)+)+"), "b", "0 0-0 0-0"},
	})
}

func TestP9_1RepetitionsForget(t *testing.T) {
	checkCases(t, false, []parsesCase{
		{re("((a)|b)*"), "ab", "2 1-2 -, 1 0-1 0-1, 0 - -"},
		{re("((a)|(b))*"), "aba", "3 2-3 2-3 -, 2 1-2 - 1-2, 1 0-1 0-1 -, 0 - - -"},
		{re("((a)|b){2}"), "ab", "2 1-2 -"},
		{re("((a)|b){2}"), "ba", "2 1-2 1-2"},
		{re("((a)?b)*"), "abb", "3 2-3 -, 2 0-2 0-1, 0 - -"},
		{re("(((a)|b)c)*"), "acbc", "4 2-4 2-3 -, 2 0-2 0-1 0-1, 0 - - -"},
		{re("((((a))|b)*c)*"), "acc", "3 2-3 - - -, 2 0-2 0-1 0-1 0-1, 0 - - - -"},
		{re("(a|(b)){1,2}"), "ba", "2 1-2 -, 1 0-1 0-1"},
		{re("(a|(b)){3,}"), "bbab", "4 3-4 3-4, 3 2-3 -"},
		{star(cat(rep(0, 1, group(1, a)), rep(0, 1, group(2, b)))), "abab", "4 2-3 3-4, 4 - 3-4, 3 2-3 -, 2 0-1 1-2, 2 - 1-2, 1 0-1 -, 0 - -"},
		{cat(group(1, a), star(alt(group(2, a), b))), "aab", "3 0-1 -, 2 0-1 1-2, 1 0-1 -"},
		{re("(a)(b)((a)|(b))*"), "abab", "4 0-1 1-2 3-4 - 3-4, 3 0-1 1-2 2-3 2-3 -, 2 0-1 1-2 - - -"},
		{re("((a)(b)*)*"), "aba", "3 2-3 2-3 -, 2 0-2 0-1 1-2, 1 0-1 0-1 -, 0 - - -"},
		{re("(a(b|(c))*)*"), "acba", "4 3-4 - -, 3 0-3 2-3 -, 2 0-2 1-2 1-2, 1 0-1 - -, 0 - - -"},
		{re("(a)*(b)*"), "ab", "2 0-1 1-2, 1 0-1 -, 0 - -; 2 - 1-2, 1 - -; 2 - -"},
		{re("(a)*|(b)*"), "a", "1 0-1 -, 0 - -"},
	})
}

func TestP9_1SituationsReachedTwice(t *testing.T) {
	checkCases(t, false, []parsesCase{
		{star(re("a|aa")), "aaa", "3, 2, 1, 0"},
		{rep(2, 3, re("a|aa")), "aaaaaaa", "6, 5, 4, 3, 2"},
		{rep(2, 2, re("a?")), "aaa", "2, 1, 0"},
		{re("(a|aa)*"), "aaa", "3 2-3, 3 1-3, 2 0-2, 2 1-2, 1 0-1, 0 -"},
		{re("(a|aa|aaa){2}"), "aaaa", "4 3-4, 4 2-4, 4 1-4, 3 2-3, 3 1-3, 2 1-2"},
		{re("((a)|a)*"), "aa", "2 1-2 1-2, 2 1-2 -, 1 0-1 0-1, 1 0-1 -, 0 - -"},
		{re("(a|ab)(bc|c)?(c)*"), "abcc", "4 0-2 2-3 3-4, 4 0-2 - 3-4, 4 0-1 1-3 3-4, 3 0-2 2-3 -, 3 0-2 - 2-3, 3 0-1 1-3 -, 2 0-2 - -, 1 0-1 - -"},
	})
}

func TestP9_1References(t *testing.T) {
	checkCases(t, false, []parsesCase{
		{re(`(a)\1`), "aa", "2 0-1; ; "},
		{re(`(a)\1`), "ab", ""},
		{re(`(a)\1`), "a", "; "},
		{re(`(ab)\1`), "ababa", "4 0-2; ; "},
		{re(`(ab)\1`), "aba", ""},
		{re(`(ab)\1`), "ab", ""},
		{re(`(ab)\1`), "abb", ""},
		{re(`()\1`), "a", "0 0-0; 1 1-1"},
		{re(`(a*)\1`), "b", "0 0-0; 1 1-1"},
		{re(`(a*)b\1`), "aabaa", "5 0-2; 4 1-2; 3 2-2"},
		{re(`(a*)b\1`), "aaba", "; 4 1-2; 3 2-2"},
		{re(`(a)?\1`), "aa", "2 0-1; ; "},
		{re(`(a)*\1`), "aaa", "3 1-2, 2 0-1"},
		{cat(rep(0, 0, group(1, empty)), back(1)), "a", "; "},
		{re(`(a)|b\1`), "ba", "; 2 1-2"},
		{re(`(a)?(b\1)?`), "aba", "3 0-1 1-3, 1 0-1 -, 0 - -; 1 - -"},
		{re(`(a|b)(\1)*`), "aab", "2 0-1 1-2, 1 0-1 -; 2 1-2 -; 3 2-3 -"},
		{re(`(a|b)*\1`), "abb", "3 1-2"},
		{re(`((a|b)\2)*`), "aabb", "4 2-4 2-3, 2 0-2 0-1, 0 - -"},
		{re(`((a|b)\2)*`), "abab", "0 - -"},
		{re(`(a*)(b*)\2\1`), "abba", "4 0-1 1-2, 0 0-0 0-0"},
		{re(`(a|ab)(b*)\1`), "abbab", "5 0-2 2-3, 4 0-1 1-3"},
		{re(`(a)(b)(c)(d)(e)(f)(g)(h)(i)\9\1`), "abcdefghiia", "11 0-1 1-2 2-3 3-4 4-5 5-6 6-7 7-8 8-9"},
		{re(`(.)(.)\1\2`), "abab", "4 0-1 1-2; "},
		{re(`(.)(.)\1\2`), "abba", ""},
		{re(`(a(b|c)\2)*\2`), "abbaccc", "7 3-6 4-5"},
		{re(`((a|b)*)(\2)`), "aab", "2 0-1 0-1 1-2"},
		{re(`(\n|a)\1`), "\n\na", "2 0-1; "},
		{cat(group(1, begin), back(1), a), "aa", "1 0-0; "},
	})
}

func TestP9_1ReferencesInRepetitions(t *testing.T) {
	checkCases(t, false, []parsesCase{
		// The second repetition has forgotten the group, so that the reference cannot match there.
		{star(cat(rep(0, 1, group(1, a)), alt(back(1), b))), "aab", "3 -, 2 0-1, 0 -"},
		{star(cat(alt(group(1, a), b), rep(0, 1, back(1)))), "aab", "3 -, 2 0-1, 2 1-2, 1 0-1, 0 -"},
		{cat(group(1, a), star(cat(b, back(1)))), "ababa", "5 0-1, 3 0-1, 1 0-1"},
		{cat(star(group(1, set("ab"))), set("c"), back(1)), "abcba", "4 1-2"},
		{cat(group(1, star(a)), group(2, rep(1, 2, back(1)))), "aaa", "3 0-1 1-3, 2 0-1 1-2, 0 0-0 0-0"},
	})
}

func TestP9_1NoParse(t *testing.T) {
	for _, e := range []api.Re{a, cat(a, b), alt(a, b), rep(1, -1, a), group(1, a), cat(begin, a), cat(group(1, a), back(1))} {
		for _, s := range []string{"", "c", "cab"} {
			checkParses(t, e, s, 0, false, "")
			checkParses(t, e, s, len(s), true, "")
		}
	}
}

// inner returns a tree with this operator that is valid after so many groups.
func inner(op, groups int) api.Re {
	switch op {
	case api.ReSet:
		return set("ab")
	case api.ReCat:
		return cat(star(a), rep(0, 1, b))
	case api.ReAlt:
		return alt(a, cat(a, b), empty)
	case api.ReRep:
		return rep(0, 2, set("ab"))
	case api.ReGroup:
		return group(groups+1, alt(a, b))
	case api.ReBack:
		return back(1)
	}
	return api.Re{Op: op}
}

// outers returns trees with several nodes with this operator around a node with the other one, behind the group 1.
func outers(outer, op int) []api.Re {
	first := group(1, rep(0, 1, set("ab")))
	e := inner(op, 1)
	switch outer {
	case api.ReCat:
		return []api.Re{cat(first, e, a), cat(first, empty, e), cat(first, cat(b, e), alt(e, b))}
	case api.ReAlt:
		return []api.Re{cat(first, alt(e, b)), cat(first, alt(empty, e, a)), alt(first, e)}
	case api.ReRep:
		return []api.Re{cat(first, star(e)), cat(first, rep(1, 2, e)), cat(first, rep(2, -1, e)), rep(0, 2, cat(first, e))}
	}
	return []api.Re{cat(first, group(2, inner(op, 2))), cat(first, group(2, cat(a, inner(op, 2))), back(2))}
}

func TestP9_1OperatorsInEachOther(t *testing.T) {
	for _, outer := range []int{api.ReCat, api.ReAlt, api.ReRep, api.ReGroup} {
		for op := api.ReEmpty; op <= api.ReBack; op++ {
			compared := 0
			for _, e := range outers(outer, op) {
				if retree.Check(e) != api.OK {
					continue
				}
				for _, s := range stringsUpTo(4, "ab\n") {
					for at := range len(s) + 1 {
						compared++
						checkDefined(t, e, s, at, (len(s)+at)%3 > 0)
					}
				}
			}
			if compared < 500 {
				t.Errorf("only %d cases were compared for the operators %d and %d", compared, outer, op)
			}
		}
	}
}

// checkDefined compares Parses and At with the definition, and reports whether this was possible.
func checkDefined(t *testing.T, e api.Re, s string, at int, lines bool) bool {
	t.Helper()
	want, wantErr, ok := definedParses(e, retree.Groups(e), s, at, lines)
	if !ok {
		return false
	}
	got, err := rematch.Parses(e, s, at, lines)
	if err != wantErr || showParses(got) != showParses(want) {
		t.Fatalf("Parses(%s, %q, %d, %v) = %.600s, %v; want %.600s, %v", show(e), s, at, lines, showParses(got), err, showParses(want), wantErr)
	}
	match, found, err := rematch.At(e, s, at, lines)
	if err != wantErr || found != (len(want) > 0) || found && !slices.Equal(match.Spans, append([]api.Span{{From: at, To: want[0].End}}, want[0].Spans...)) || !found && len(match.Spans) != 0 {
		t.Fatalf("At(%s, %q, %d, %v) = %v, %v, %v; the parses are %.600s, %v", show(e), s, at, lines, match, found, err, showParses(want), wantErr)
	}
	return true
}

func TestP9_1RandomTrees(t *testing.T) {
	random := rand.New(rand.NewSource(91))
	compared, found, references := 0, 0, 0
	for _, e := range validTrees(92, 20000, 5) {
		for range 6 {
			s, lines := randomString(random, 8), random.Intn(2) == 0
			at := random.Intn(len(s) + 1)
			if !checkDefined(t, e, s, at, lines) {
				continue
			}
			compared++
			if list, _ := rematch.Parses(e, s, at, lines); len(list) > 1 {
				found++
				if has(e, api.ReBack) {
					references++
				}
			}
		}
	}
	if compared < 100000 || found < 15000 || references < 2000 {
		t.Errorf("%d cases were compared, %d with several parses, %d of them with references", compared, found, references)
	}
}

func TestP9_1FirstParses(t *testing.T) {
	random := rand.New(rand.NewSource(93))
	compared := 0
	for _, e := range validTrees(94, 10000, 4) {
		s, lines := randomString(random, 6), random.Intn(2) == 0
		at := random.Intn(len(s) + 1)
		list, err := rematch.Parses(e, s, at, lines)
		if err != api.OK {
			continue
		}
		for k := at; k <= len(s); k++ {
			want, ok, done := firstParse(e, retree.Groups(e), s, at, k, lines)
			if !done {
				continue
			}
			compared++
			index := slices.IndexFunc(list, func(p api.Parse) bool { return p.End == k })
			if (index >= 0) != ok || ok && showParses(list[index:index+1]) != showParses([]api.Parse{want}) {
				t.Fatalf("Parses(%s, %q, %d, %v) = %.600s; the first one that ends at %d is %v, %v", show(e), s, at, lines, showParses(list), k, want, ok)
			}
		}
	}
	if compared < 20000 {
		t.Errorf("only %d ends were compared", compared)
	}
}
