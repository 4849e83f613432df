package text_test

import (
	"math"
	"regexp"
	"slices"
	"strings"
	"testing"

	"texttools/api"
	"texttools/text"
)

// allBytes returns a string of all bytes in their order.
func allBytes() string {
	list := make([]byte, 256)
	for i := range list {
		list[i] = byte(i)
	}
	return string(list)
}

// forShort calls f with every string of at most length bytes of the alphabet.
func forShort(alphabet string, length int, f func(s string)) {
	f("")
	if length == 0 {
		return
	}
	for i := range len(alphabet) {
		forShort(alphabet, length-1, func(rest string) { f(alphabet[i:i+1] + rest) })
	}
}

// A lined is a string with the lines that the chapter requires.
type lined struct {
	s     string
	lines []string
	ended bool
}

func lists() []lined {
	long := strings.Repeat("x", 100000)
	return []lined{
		{"", nil, true}, {"\n", []string{""}, true}, {"\n\n", []string{"", ""}, true}, {"\n\n\n", []string{"", "", ""}, true},
		{"a", []string{"a"}, false}, {"a\n", []string{"a"}, true}, {"\na", []string{"", "a"}, false}, {"\na\n", []string{"", "a"}, true},
		{"a\nb\n", []string{"a", "b"}, true}, {"a\nb", []string{"a", "b"}, false}, {"a\n\nb", []string{"a", "", "b"}, false},
		{"a\n\n", []string{"a", ""}, true}, {"\n\na", []string{"", "", "a"}, false}, {"a\n\n\nb\n", []string{"a", "", "", "b"}, true},
		{" \n\t\n ", []string{" ", "\t", " "}, false}, {"a\r\nb\r\n", []string{"a\r", "b\r"}, true}, {"a\rb", []string{"a\rb"}, false},
		{"a\x00b\n\x00", []string{"a\x00b", "\x00"}, false}, {"\v\f\x85\n", []string{"\v\f\x85"}, true}, {"\u2028\u0085\n", []string{"\u2028\u0085"}, true},
		{"\xff\n\xc3\n\xa4", []string{"\xff", "\xc3", "\xa4"}, false}, {"ä\nö\n", []string{"ä", "ö"}, true}, {`a\nb`, []string{`a\nb`}, false},
		{allBytes(), []string{allBytes()[:10], allBytes()[11:]}, false}, {long + "\n" + long, []string{long, long}, false},
	}
}

func TestP3_1Lines(t *testing.T) {
	for _, c := range lists() {
		if lines, ended := text.Lines(c.s); !slices.Equal(lines, c.lines) || ended != c.ended {
			t.Errorf("Lines(%.40q) = %.40q, %v; want %.40q, %v", c.s, lines, ended, c.lines, c.ended)
		}
	}
}

func TestP3_1LinesOfShortStrings(t *testing.T) {
	line := regexp.MustCompile(`[^\n]*\n|[^\n]+$`)
	forShort("a\n\r\xff ", 6, func(s string) {
		var want []string
		for _, l := range line.FindAllString(s, -1) {
			want = append(want, strings.TrimSuffix(l, "\n"))
		}
		lines, ended := text.Lines(s)
		if !slices.Equal(lines, want) || ended != (s == "" || s[len(s)-1] == '\n') {
			t.Errorf("Lines(%q) = %q, %v; want %q", s, lines, ended, want)
		}
	})
}

func TestP3_1LinesMany(t *testing.T) {
	s := strings.Repeat("\n", 50000) + strings.Repeat("ab\n", 50000)
	lines, ended := text.Lines(s)
	if len(lines) != 100000 || !ended || lines[49999] != "" || lines[50000] != "ab" || lines[99999] != "ab" {
		t.Errorf("%d lines, ended %v", len(lines), ended)
	}
}

func TestP3_1LinesAreNew(t *testing.T) {
	first, _ := text.Lines("a\nb\n")
	second, _ := text.Lines("a\nb\n")
	first[0] = "x"
	if second[0] != "a" {
		t.Errorf("two results of Lines share memory: %q", second)
	}
	if longer := append(first, "y"); len(first) != 2 || longer[2] != "y" {
		t.Errorf("appending to %q gives %q", first, longer)
	}
}

func TestP3_2Join(t *testing.T) {
	for _, c := range []struct {
		lines         []string
		ended, broken string
	}{
		{nil, "", ""}, {[]string{}, "", ""}, {[]string{""}, "\n", ""}, {[]string{"a", ""}, "a\n\n", "a\n"},
		{[]string{"a"}, "a\n", "a"}, {[]string{"a", "b"}, "a\nb\n", "a\nb"}, {[]string{"", "a"}, "\na\n", "\na"},
		{[]string{"", ""}, "\n\n", "\n"}, {[]string{"", "", ""}, "\n\n\n", "\n\n"}, {[]string{"a", "", "b"}, "a\n\nb\n", "a\n\nb"},
		{[]string{"a\nb"}, "a\nb\n", "a\nb"}, {[]string{"\n"}, "\n\n", "\n"}, {[]string{"a\n", "\nb"}, "a\n\n\nb\n", "a\n\n\nb"},
		{[]string{"a\n"}, "a\n\n", "a\n"}, {[]string{"\n", "\n"}, "\n\n\n\n", "\n\n\n"}, {[]string{"", "\n", ""}, "\n\n\n\n", "\n\n\n"},
		{[]string{"a\r", "\x00\xff", " "}, "a\r\n\x00\xff\n \n", "a\r\n\x00\xff\n "}, {[]string{"ä", `\n`}, "ä\n\\n\n", "ä\n\\n"},
	} {
		if got := text.Join(c.lines, true); got != c.ended {
			t.Errorf("Join(%q, true) = %q, want %q", c.lines, got, c.ended)
		}
		if got := text.Join(c.lines, false); got != c.broken {
			t.Errorf("Join(%q, false) = %q, want %q", c.lines, got, c.broken)
		}
	}
}

// forLists calls f with every list of at most count strings, each of at most 2 bytes of the alphabet.
func forLists(alphabet string, count int, f func(lines []string)) {
	f(nil)
	if count == 0 {
		return
	}
	forShort(alphabet, 2, func(first string) {
		forLists(alphabet, count-1, func(rest []string) { f(append([]string{first}, rest...)) })
	})
}

func TestP3_2JoinOfShortLists(t *testing.T) {
	forLists("a\n", 4, func(lines []string) {
		whole := ""
		for _, l := range lines {
			whole += l + "\n"
		}
		if got := text.Join(lines, true); got != whole {
			t.Errorf("Join(%q, true) = %q, want %q", lines, got, whole)
		}
		if got, want := text.Join(lines, false), strings.TrimSuffix(whole, "\n"); got != want {
			t.Errorf("Join(%q, false) = %q, want %q", lines, got, want)
		}
	})
}

func TestP3_2JoinLeavesArguments(t *testing.T) {
	list := []string{"a", "b", "c"}
	for _, ended := range []bool{true, false} {
		text.Join(list[:1], ended)
		text.Join(list[:0], ended)
		if !slices.Equal(list, []string{"a", "b", "c"}) {
			t.Errorf("Join changed its argument to %q", list)
		}
	}
}

func TestP3_3Words(t *testing.T) {
	long := strings.Repeat("w", 100000)
	separators := strings.Repeat(" \t\n", 30000)
	for _, c := range []struct {
		s     string
		words []string
	}{
		{"", nil}, {" ", nil}, {"\t", nil}, {"\n", nil}, {" \t\n \t\n", nil}, {separators, nil},
		{"a", []string{"a"}}, {" a", []string{"a"}}, {"a ", []string{"a"}}, {" ab\tc\n", []string{"ab", "c"}}, {"a b\tc\nd", []string{"a", "b", "c", "d"}},
		{"  a  b  ", []string{"a", "b"}}, {"\n\na\n\nb\n\n", []string{"a", "b"}}, {"\t\ta\t\tb\t\t", []string{"a", "b"}}, {"a \t\n b", []string{"a", "b"}},
		{"a\rb", []string{"a\rb"}}, {"a\r\nb\r\n", []string{"a\r", "b\r"}}, {"\r", []string{"\r"}}, {" \r \v \f ", []string{"\r", "\v", "\f"}},
		{"\va\fb\x00c\x1b\x7f", []string{"\va\fb\x00c\x1b\x7f"}}, {"a\x0bb\x0cc\x1cd\x1fe", []string{"a\x0bb\x0cc\x1cd\x1fe"}},
		{"a\u0085b\u00a0c\u2003d\u3000e\ufefff", []string{"a\u0085b\u00a0c\u2003d\u3000e\ufefff"}}, {"\x85\xa0 \xff", []string{"\x85\xa0", "\xff"}},
		{"ä ö", []string{"ä", "ö"}}, {"\xc3 \xa4", []string{"\xc3", "\xa4"}}, {"\xe4\x20\x80", []string{"\xe4", "\x80"}}, {"b a b", []string{"b", "a", "b"}},
		{"a.b,c;d", []string{"a.b,c;d"}}, {`"a b"`, []string{`"a`, `b"`}}, {`a\ b\tc`, []string{`a\`, `b\tc`}},
		{allBytes(), []string{allBytes()[:9], allBytes()[11:32], allBytes()[33:]}}, {separators + long + separators + long, []string{long, long}},
	} {
		if got := text.Words(c.s); !slices.Equal(got, c.words) {
			t.Errorf("Words(%.40q) = %.40q, want %.40q", c.s, got, c.words)
		}
	}
}

func TestP3_3WordsOfShortStrings(t *testing.T) {
	word := regexp.MustCompile(`[^ \t\n]+`)
	forShort("ab \t\n\r", 6, func(s string) {
		if got, want := text.Words(s), word.FindAllString(s, -1); !slices.Equal(got, want) {
			t.Errorf("Words(%q) = %q, want %q", s, got, want)
		}
	})
}

func TestP3_4Position(t *testing.T) {
	for _, c := range []struct {
		s    string
		at   int
		want api.Pos
	}{
		{"", 0, api.Pos{Line: 1, Col: 1}}, {"", 1, api.Pos{Line: 1, Col: 1}}, {"", -1, api.Pos{Line: 1, Col: 1}},
		{"", math.MaxInt, api.Pos{Line: 1, Col: 1}}, {"", math.MinInt, api.Pos{Line: 1, Col: 1}},
		{"ab\nc", math.MinInt, api.Pos{Line: 1, Col: 1}}, {"ab\nc", -1, api.Pos{Line: 1, Col: 1}}, {"ab\nc", 0, api.Pos{Line: 1, Col: 1}},
		{"ab\nc", 1, api.Pos{Line: 1, Col: 2}}, {"ab\nc", 2, api.Pos{Line: 1, Col: 3}}, {"ab\nc", 3, api.Pos{Line: 2, Col: 1}},
		{"ab\nc", 4, api.Pos{Line: 2, Col: 2}}, {"ab\nc", 5, api.Pos{Line: 2, Col: 2}}, {"ab\nc", 9, api.Pos{Line: 2, Col: 2}}, {"ab\nc", math.MaxInt, api.Pos{Line: 2, Col: 2}},
		{"\n", 0, api.Pos{Line: 1, Col: 1}}, {"\n", 1, api.Pos{Line: 2, Col: 1}}, {"\n", 2, api.Pos{Line: 2, Col: 1}},
		{"\n\n", 0, api.Pos{Line: 1, Col: 1}}, {"\n\n", 1, api.Pos{Line: 2, Col: 1}}, {"\n\n", 2, api.Pos{Line: 3, Col: 1}}, {"\n\n", 3, api.Pos{Line: 3, Col: 1}},
		{"ab\n", 3, api.Pos{Line: 2, Col: 1}}, {"ab\n", 4, api.Pos{Line: 2, Col: 1}}, {"ab\n\ncd\n", 3, api.Pos{Line: 2, Col: 1}}, {"ab\n\ncd\n", 6, api.Pos{Line: 3, Col: 3}},
		{"a\r\nb", 2, api.Pos{Line: 1, Col: 3}}, {"a\rb\rc", 5, api.Pos{Line: 1, Col: 6}}, {"\t\tx", 2, api.Pos{Line: 1, Col: 3}}, {"ä\nö", 5, api.Pos{Line: 2, Col: 3}},
		{"\xff\x00\u2028\n\x85", 6, api.Pos{Line: 2, Col: 1}}, {strings.Repeat("ab\n", 40000) + "cde", 120002, api.Pos{Line: 40001, Col: 3}},
	} {
		if got := text.Position(c.s, c.at); got != c.want {
			t.Errorf("Position(%.40q, %d) = %v, want %v", c.s, c.at, got, c.want)
		}
	}
}

func TestP3_4PositionInShortStrings(t *testing.T) {
	forShort("a\n\r\xff", 6, func(s string) {
		want := api.Pos{Line: 1, Col: 1}
		for at := range len(s) + 1 {
			if got := text.Position(s, at); got != want {
				t.Errorf("Position(%q, %d) = %v, want %v", s, at, got, want)
			}
			if at < len(s) && s[at] == '\n' {
				want = api.Pos{Line: want.Line + 1, Col: 1}
			} else {
				want.Col++
			}
		}
		for _, least := range []int{-1, -2, -1000, math.MinInt, math.MinInt + 1} {
			if got := text.Position(s, least); got != text.Position(s, 0) {
				t.Errorf("Position(%q, %d) = %v", s, least, got)
			}
		}
		for _, greatest := range []int{len(s) + 1, len(s) + 2, 1000, math.MaxInt, math.MaxInt - 1} {
			if got := text.Position(s, greatest); got != text.Position(s, len(s)) {
				t.Errorf("Position(%q, %d) = %v", s, greatest, got)
			}
		}
	})
}

func TestP3_7JoinOfLines(t *testing.T) {
	check := func(s string) {
		if got := text.Join(text.Lines(s)); got != s {
			t.Errorf("Join(Lines(%.40q)) = %.40q", s, got)
		}
	}
	for _, c := range lists() {
		check(c.s)
	}
	forShort("a\n\r\xff ", 6, check)
}

func TestP3_7LinesOfJoin(t *testing.T) {
	check := func(lines []string, ended bool) {
		if gotLines, gotEnded := text.Lines(text.Join(lines, ended)); !slices.Equal(gotLines, lines) || gotEnded != ended {
			t.Errorf("Lines(Join(%q, %v)) = %q, %v", lines, ended, gotLines, gotEnded)
		}
	}
	forLists("a\r\xff", 3, func(lines []string) {
		check(lines, true)
		if len(lines) > 0 && lines[len(lines)-1] != "" {
			check(lines, false)
		}
	})
}

func TestP3_8WordsJoined(t *testing.T) {
	forShort("ab \t\n\r", 6, func(s string) {
		words := text.Words(s)
		if got := text.Words(strings.Join(words, " ")); !slices.Equal(got, words) {
			t.Errorf("the words of %q are %q, and joined %q", s, words, got)
		}
	})
}

func TestP3_8WordsOfTwoStrings(t *testing.T) {
	forShort("a \t\n\r", 3, func(s string) {
		forShort("a \t\n\r", 3, func(other string) {
			want := slices.Concat(text.Words(s), text.Words(other))
			for _, separator := range []string{" ", "\t", "\n"} {
				if got := text.Words(s + separator + other); !slices.Equal(got, want) {
					t.Errorf("Words(%q) = %q, want %q", s+separator+other, got, want)
				}
			}
		})
	})
}

func TestP3_9OffsetsOfPositions(t *testing.T) {
	forShort("a\n\r\xff", 6, func(s string) {
		lines, _ := text.Lines(s)
		before := api.Pos{}
		for at := range len(s) + 1 {
			p := text.Position(s, at)
			sum := p.Line - 1 + p.Col - 1
			for _, line := range lines[:p.Line-1] {
				sum += len(line)
			}
			if sum != at {
				t.Errorf("Position(%q, %d) = %v, which is the offset %d", s, at, p, sum)
			}
			if p.Line < before.Line || p.Line == before.Line && p.Col <= before.Col {
				t.Errorf("Position(%q, %d) = %v is not greater than %v", s, at, p, before)
			}
			before = p
		}
	})
}
