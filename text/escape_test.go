package text_test

import (
	"fmt"
	"regexp"
	"strconv"
	"strings"
	"testing"

	"texttools/api"
	"texttools/text"
)

// lettered contains the bytes whose escape sequence has no digits.
var lettered = map[byte]string{'\\': `\\`, 10: `\n`, 9: `\t`, 13: `\r`, 7: `\a`, 8: `\b`, 12: `\f`, 11: `\v`}

func escapedByte(c byte) string {
	if sequence := lettered[c]; sequence != "" {
		return sequence
	}
	if 32 <= c && c <= 126 {
		return string(rune(c))
	}
	return fmt.Sprintf(`\%03o`, c)
}

func TestP3_5EscapeOfEachByte(t *testing.T) {
	whole := ""
	for i := range 256 {
		want := escapedByte(byte(i))
		if got := text.Escape(string([]byte{byte(i)})); got != want {
			t.Errorf("Escape of the byte %d is %s, want %s", i, got, want)
		}
		whole += want
	}
	if got := text.Escape(allBytes()); got != whole {
		t.Errorf("Escape of all bytes is %s, want %s", got, whole)
	}
}

func TestP3_5Escape(t *testing.T) {
	for s, want := range map[string]string{
		"": "", "abc": "abc", "a b": "a b", "\x00\\\xc8": `\000\\\310`, "\n\t\r\a\b\f\v": `\n\t\r\a\b\f\v`, `"'/`: `"'/`, "~ ": "~ ",
		"\x06\x07\x08\x09\x0a\x0b\x0c\x0d\x0e": `\006\a\b\t\n\v\f\r\016`, "\x1f \x7f\x80\xff": `\037 \177\200\377`, "\x1b[0m": `\033[0m`,
		`\n`: `\\n`, `\`: `\\`, `\\`: `\\\\`, `\101`: `\\101`, "\x000": `\0000`, "\x017": `\0017`, "ä": `\303\244`, "€": `\342\202\254`,
		strings.Repeat("\x00a", 50000): strings.Repeat(`\000a`, 50000),
	} {
		if got := text.Escape(s); got != want {
			t.Errorf("Escape(%.40q) = %.40s, want %.40s", s, got, want)
		}
	}
}

func checkUnescape(t *testing.T, s, want string, err api.Errno, at int) {
	t.Helper()
	if got, gotErr, gotAt := text.Unescape(s); got != want || gotErr != err || gotAt != at {
		t.Errorf("Unescape(%.40q) = %.40q, %d, %d; want %.40q, %d, %d", s, got, gotErr, gotAt, want, err, at)
	}
}

func TestP3_6Unescape(t *testing.T) {
	for s, want := range map[string]string{
		"": "", "abc": "abc", "\n\t\x00\xff": "\n\t\x00\xff", "ä\"'/": "ä\"'/", allBytes()[:92]: allBytes()[:92], allBytes()[93:]: allBytes()[93:],
		`\n\t\r\a\b\f\v`: "\n\t\r\a\b\f\v", `\\`: `\`, `\"`: `"`, `\/`: `/`, `\"\/`: `"/`, `\\n`: `\n`, `\\\n`: "\\\n", `\\\\`: `\\`, `a\\`: `a\`,
		`\0`: "\x00", `\7`: "\a", `\1`: "\x01", `\00`: "\x00", `\77`: "?", `\12`: "\n", `\000`: "\x00", `\101`: "A", `\377`: "\xff", `\277`: "\xbf",
		`\1019`: "A9", `\08`: "\x008", `\018`: "\x018", `\1234`: "S4", `\0000`: "\x000", `\3777`: "\xff7", `\1a`: "\x01a", `\12x`: "\nx",
		`\78`: "\a8", `\7\7`: "\a\a", `\40 \40`: "   ", `\134n`: `\n`, `\134\134`: `\\`, `\60\61`: "01", `\47\42`: `'"`,
		`a\nb\tc\\d\101e`: "a\nb\tc\\dAe", "\\0\n": "\x00\n", "\\1\xff": "\x01\xff", `nt\tn`: "nt\tn",
		strings.Repeat(`\n\101x`, 30000): strings.Repeat("\nAx", 30000),
	} {
		checkUnescape(t, s, want, api.OK, 0)
	}
}

func TestP3_6UnescapeOctal(t *testing.T) {
	for value := range 512 {
		for digits := 1; digits <= 4; digits++ {
			sequence := fmt.Sprintf(`\%0*o`, digits, value)
			switch {
			case len(sequence) <= 4 && value <= 255:
				checkUnescape(t, sequence+"8", string([]byte{byte(value), '8'}), api.OK, 0)
			case len(sequence) <= 4:
				checkUnescape(t, "ab"+sequence, "", api.ErrSyntax, 2)
			case value/8 <= 255:
				checkUnescape(t, sequence, string([]byte{byte(value / 8), byte('0' + value%8)}), api.OK, 0)
			}
		}
	}
}

func TestP3_6UnescapeOfEachByteAfterBackslash(t *testing.T) {
	want := map[byte]string{'n': "\n", 't': "\t", 'r': "\r", 'a': "\a", 'b': "\b", 'f': "\f", 'v': "\v", '\\': `\`, '"': `"`, '/': "/"}
	for c := byte('0'); c <= '7'; c++ {
		want[c] = string([]byte{c - '0'})
	}
	for i := range 256 {
		c := byte(i)
		sequence := string([]byte{'\\', c})
		if plain := want[c]; plain != "" {
			checkUnescape(t, sequence, plain, api.OK, 0)
			continue
		}
		checkUnescape(t, sequence, "", api.ErrSyntax, 0)
		checkUnescape(t, "x"+sequence+"1", "", api.ErrSyntax, 1)
	}
}

func TestP3_6UnescapeErrors(t *testing.T) {
	for s, at := range map[string]int{
		`\`: 0, `ab\`: 2, `\\\`: 2, `\n\`: 2, `\101\`: 4, `\1\`: 2, `\8`: 0, `\9`: 0, `\x41`: 0, `\N`: 0, `\e`: 0, `\'`: 0, `\ `: 0, "\\\n": 0, "\\\x00": 0, "\\\xff": 0,
		`\400`: 0, `\777`: 0, `a\400`: 1, `\4000`: 0, `\500x`: 0, `\377\400`: 4, `\8\9`: 0, `\n\8\400\`: 2, `a\400\8`: 1, `\\\\\8`: 4, `ab\cde\f`: 2,
		"\n\n\\q": 2, "ä\\ä": 2, strings.Repeat(`\n`, 50000) + `\z` + strings.Repeat(`\z`, 50000): 100000,
	} {
		checkUnescape(t, s, "", api.ErrSyntax, at)
	}
}

var sequence = regexp.MustCompile(`^\\([ntrabfv\\"/]|[0-7]{1,3})`)

// unescapeByPattern is a second definition of Unescape, which cuts off one sequence after the other.
func unescapeByPattern(s string) (string, api.Errno, int) {
	plain := ""
	for at := 0; at < len(s); {
		found := sequence.FindString(s[at:])
		value, err := strconv.ParseUint(strings.TrimPrefix(found, `\`), 8, 64)
		switch {
		case s[at] != '\\':
			found = s[at : at+1]
			plain += found
		case found == "" || value > 255:
			return "", api.ErrSyntax, at
		case err == nil:
			plain += string([]byte{byte(value)})
		case found == `\/` || found == `\"`:
			plain += found[1:]
		default:
			letter, _ := strconv.Unquote(`"` + found + `"`)
			plain += letter
		}
		at += len(found)
	}
	return plain, api.OK, 0
}

func TestP3_6UnescapeOfShortStrings(t *testing.T) {
	forShort(`\n"/0478`, 6, func(s string) {
		want, err, at := unescapeByPattern(s)
		checkUnescape(t, s, want, err, at)
	})
}

func checkRoundTrip(t *testing.T, s string) {
	t.Helper()
	escaped := text.Escape(s)
	checkUnescape(t, escaped, s, api.OK, 0)
	needed := false
	for i := range len(s) {
		needed = needed || s[i] == '\\' || s[i] < 32 || s[i] > 126
	}
	if (len(escaped) == len(s)) == needed {
		t.Errorf("Escape(%q) = %s has %d bytes instead of %d", s, escaped, len(escaped), len(s))
	}
	for i := range len(escaped) {
		if escaped[i] < 32 || escaped[i] > 126 {
			t.Errorf("Escape(%q) contains the byte %d", s, escaped[i])
		}
	}
}

func TestP3_10UnescapeInvertsEscape(t *testing.T) {
	for first := range 256 {
		checkRoundTrip(t, string([]byte{byte(first)}))
		for second := range 256 {
			checkRoundTrip(t, string([]byte{byte(first), byte(second)}))
		}
	}
	checkRoundTrip(t, allBytes())
	forShort("\\\x00\xff17n", 5, func(s string) { checkRoundTrip(t, s) })
}
