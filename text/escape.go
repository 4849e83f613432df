package text

import (
	"strings"

	"texttools/api"
)

const (
	// letters contains the letters of the escape sequences of the bytes from firstLettered on.
	letters       = "abtnvfr"
	firstLettered = '\a'
	// quotable contains the bytes that a backslash before them leaves as they are.
	quotable = "\\\"/"

	maxOctalDigits = 3
	maxByte        = 255
)

// Escape returns s as printable ASCII text.
func Escape(s string) string {
	escaped := make([]byte, 0, len(s))
	for i := range len(s) {
		escaped = appendEscaped(escaped, s[i])
	}
	return string(escaped)
}

// appendEscaped returns list with c, or the escape sequence of c, at its end.
func appendEscaped(list []byte, c byte) []byte {
	switch {
	case c == '\\':
		return append(list, '\\', '\\')
	case ' ' <= c && c <= '~':
		return append(list, c)
	case firstLettered <= c && c < firstLettered+byte(len(letters)):
		return append(list, '\\', letters[c-firstLettered])
	}
	return append(list, '\\', '0'+c>>6, '0'+c>>3&7, '0'+c&7)
}

// Unescape returns the string that s describes, or ErrSyntax and the offset of the first backslash that begins no escape sequence.
func Unescape(s string) (string, api.Errno, int) {
	plain := make([]byte, 0, len(s))
	for at := 0; at < len(s); {
		if s[at] != '\\' {
			plain = append(plain, s[at])
			at++
			continue
		}
		c, length := sequenceByte(s[at+1:])
		if length == 0 {
			return "", api.ErrSyntax, at
		}
		plain = append(plain, c)
		at += 1 + length
	}
	return string(plain), api.OK, 0
}

// sequenceByte returns the byte of the escape sequence whose backslash comes before s, and how many bytes of s belong to it: 0 if it is not valid.
func sequenceByte(s string) (byte, int) {
	if s == "" {
		return 0, 0
	}
	if i := strings.IndexByte(letters, s[0]); i >= 0 {
		return firstLettered + byte(i), 1
	}
	if strings.IndexByte(quotable, s[0]) >= 0 {
		return s[0], 1
	}
	return octalByte(s)
}

// octalByte returns the value of the octal digits at the beginning of s and their number, or 0 and 0 if they denote no byte.
func octalByte(s string) (byte, int) {
	value, count := 0, 0
	for count < len(s) && count < maxOctalDigits && isOctal(s[count]) {
		value = value*8 + int(s[count]-'0')
		count++
	}
	if value > maxByte {
		return 0, 0
	}
	return byte(value), count
}

func isOctal(c byte) bool {
	return '0' <= c && c <= '7'
}
