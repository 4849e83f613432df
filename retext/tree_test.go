package retext_test

import (
	"fmt"
	"strings"
	"testing"

	"texttools/api"
	"texttools/locale"
	"texttools/retext"
)

const (
	extended = api.ReExtended
	fold     = api.ReFold
	lines    = api.ReLines
	allFlags = extended | fold | lines
)

var (
	empty = api.Re{Op: api.ReEmpty}
	begin = api.Re{Op: api.ReBegin}
	end   = api.Re{Op: api.ReEnd}
)

// set returns the tree of one of the bytes.
func set(list string) api.Re {
	return api.Re{Op: api.ReSet, Set: charsetOf(list)}
}

// but returns the tree of any byte but these.
func but(list string) api.Re {
	e := set(list)
	for i := range e.Set.Bits {
		e.Set.Bits[i] = ^e.Set.Bits[i]
	}
	return e
}

func charsetOf(list string) api.Charset {
	var c api.Charset
	for i := range len(list) {
		c.Bits[list[i]/64] |= 1 << (list[i] % 64)
	}
	return c
}

func cat(parts ...api.Re) api.Re {
	return api.Re{Op: api.ReCat, Args: parts}
}

func alt(parts ...api.Re) api.Re {
	return api.Re{Op: api.ReAlt, Args: parts}
}

func rep(lo, hi int, part api.Re) api.Re {
	return api.Re{Op: api.ReRep, Lo: lo, Hi: hi, Args: []api.Re{part}}
}

func group(number int, part api.Re) api.Re {
	return api.Re{Op: api.ReGroup, Group: number, Args: []api.Re{part}}
}

func back(number int) api.Re {
	return api.Re{Op: api.ReBack, Group: number}
}

// word returns the tree of the bytes of s, one after the other.
func word(s string) api.Re {
	var parts []api.Re
	for i := range len(s) {
		parts = append(parts, set(s[i:i+1]))
	}
	return cat(parts...)
}

// same reports whether two trees are equal; lists without elements are equal, whether they are nil or not.
func same(a, b api.Re) bool {
	if a.Op != b.Op || a.Set != b.Set || a.Lo != b.Lo || a.Hi != b.Hi || a.Group != b.Group || len(a.Args) != len(b.Args) {
		return false
	}
	for i := range a.Args {
		if !same(a.Args[i], b.Args[i]) {
			return false
		}
	}
	return true
}

// bytesOf returns the bytes of the set.
func bytesOf(c api.Charset) string {
	var list []byte
	for i := range 256 {
		if c.Bits[i/64]>>(i%64)&1 == 1 {
			list = append(list, byte(i))
		}
	}
	return string(list)
}

// show writes a tree for the messages of tests.
func show(e api.Re) string {
	var parts []string
	if e.Set != (api.Charset{}) {
		parts = append(parts, fmt.Sprintf("%.60q", bytesOf(e.Set)))
	}
	for _, part := range e.Args {
		parts = append(parts, show(part))
	}
	name := fmt.Sprint(e.Op)
	if 0 <= e.Op && e.Op <= api.ReBack {
		name = strings.Fields("none empty set cat alt rep group begin end back")[e.Op]
	}
	return fmt.Sprintf("%s[%d %d %d](%s)", name, e.Lo, e.Hi, e.Group, strings.Join(parts, " "))
}

func checkTree(t *testing.T, pattern string, flags int, l api.Locale, want api.Re) {
	t.Helper()
	got, err, at := retext.Parse(pattern, flags, l)
	if err != api.OK || at != 0 || !same(got, want) {
		t.Errorf("Parse(%.80q, %d, %s) = %.300s, %v, %d; want %.300s", pattern, flags, l.Name, show(got), err, at, show(want))
	}
}

func checkError(t *testing.T, pattern string, flags int, l api.Locale, want api.Errno, wantAt int) {
	t.Helper()
	got, err, at := retext.Parse(pattern, flags, l)
	if err != want || at != wantAt || !same(got, api.Re{}) {
		t.Errorf("Parse(%.80q, %d, %s) = %.300s, %v, %d; want %v, %d", pattern, flags, l.Name, show(got), err, at, want, wantAt)
	}
}

// A failure is an error with its offset.
type failure struct {
	err api.Errno
	at  int
}

// checkErrors checks the errors of patterns in the default locale, and that they are the same with the flags ReFold and ReLines and with other bits of flags.
func checkErrors(t *testing.T, flags int, want map[string]failure) {
	t.Helper()
	for pattern, f := range want {
		for _, more := range []int{0, fold, lines, fold | lines, 8, -8} {
			checkError(t, pattern, flags|more, locale.Default(), f.err, f.at)
		}
	}
}

// checkTrees checks the trees of patterns in the default locale.
func checkTrees(t *testing.T, flags int, want map[string]api.Re) {
	t.Helper()
	for pattern, e := range want {
		for _, more := range []int{0, 8, -8} {
			checkTree(t, pattern, flags|more, locale.Default(), e)
		}
	}
}

// changed returns the default locale after a change.
func changed(name string, change func(l *api.Locale)) api.Locale {
	l := locale.Default()
	l.Name = name
	change(&l)
	return l
}

// table returns the table of the forms of all bytes.
func table(form func(c byte) byte) string {
	var list [256]byte
	for c := range list {
		list[c] = form(byte(c))
	}
	return string(list[:])
}

// caseless returns a locale in which small and capital letters have equal weights.
func caseless() api.Locale {
	return changed("caseless", func(l *api.Locale) {
		for c := 'A'; c <= 'Z'; c++ {
			l.Weights[c] = int(c) + 'a' - 'A'
		}
	})
}

// reversed returns a locale in which the bytes are in the descending order of their numbers.
func reversed() api.Locale {
	return changed("reversed", func(l *api.Locale) {
		for c := range 256 {
			l.Weights[c] = 65535 - c
		}
	})
}

// shifted returns a locale in which the forms of a byte are its neighbours, and in which there are more classes.
func shifted() api.Locale {
	return changed("shifted", func(l *api.Locale) {
		l.Lower = table(func(c byte) byte { return c + 1 })
		l.Upper = table(func(c byte) byte { return c - 1 })
		l.Classes = []api.Class{{Name: "none"}, {Name: "vowel", Set: charsetOf("aeiou")}, {Name: "digit", Set: charsetOf("01")}, {Name: "x_1", Set: charsetOf("\x00\n\xff")}, {Name: "every", Set: but("").Set}}
		l.Elements = []api.Element{{Text: "ab", Weight: 3}, {Text: "[a", Weight: 4}}
	})
}

// broken returns a locale that is not valid, though its tables are like those of the others.
func broken() api.Locale {
	l := shifted()
	l.Name, l.Weights = "no name", reversed().Weights
	return l
}

func someLocales() []api.Locale {
	return []api.Locale{locale.Default(), caseless(), reversed(), shifted(), broken(), {}}
}
