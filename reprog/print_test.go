package reprog_test

import (
	"fmt"
	"math/rand"
	"slices"
	"strings"
	"testing"

	"texttools/api"
	"texttools/reprog"
)

func checkPrint(t *testing.T, p api.ReProg, want string) {
	t.Helper()
	if got := reprog.Print(p); got != want {
		t.Errorf("Print(%s, %v) = %.900q, want %.900q", showInsts(p.Insts), p.Lines, got, want)
	}
}

func TestP10_3Examples(t *testing.T) {
	text := reprog.Print(compiled(t, alt(a, set("\n")), false))
	if lines := strings.Split(text, "\n"); lines[0] != "0 split 1 3" || lines[1] != "1 set 97" {
		t.Errorf("the program of a|\\n is printed as %q", text)
	}
	for _, c := range []struct{ pattern, want string }{
		{"(a|b)*", "0 split 1 6\n1 split 2 4\n2 set 97\n3 jump 5\n4 set 98\n5 jump 0\n6 match\n"},
		{"", "0 match\n"},
		{"a+", "0 set 97\n1 split 0 2\n2 match\n"},
		{"a?", "0 split 1 2\n1 set 97\n2 match\n"},
		{"a{2}", "0 set 97\n1 set 97\n2 match\n"},
		{"(^|a)$", "0 split 1 3\n1 begin\n2 jump 4\n3 set 97\n4 end\n5 match\n"},
		{"a|\n", "0 split 1 3\n1 set 97\n2 jump 4\n3 set 10\n4 match\n"},
	} {
		checkPrint(t, compiled(t, re(c.pattern), false), c.want)
		checkPrint(t, compiled(t, re(c.pattern), true), "lines\n"+c.want)
	}
}

func TestP10_3Instructions(t *testing.T) {
	for _, c := range []struct {
		insts []api.ReInst
		want  string
	}{
		{instsOf("match"), "0 match\n"},
		{instsOf("jump 0"), "0 jump 0\n"},
		{instsOf("split 0 0"), "0 split 0 0\n"},
		{instsOf("split 1 0, match"), "0 split 1 0\n1 match\n"},
		{instsOf("split 0 1, match"), "0 split 0 1\n1 match\n"},
		{instsOf("match, jump 1, split 2 1"), "0 match\n1 jump 1\n2 split 2 1\n"},
		{instsOf("begin, end, set a, match"), "0 begin\n1 end\n2 set 97\n3 match\n"},
		{instsOf("match, match, match"), "0 match\n1 match\n2 match\n"},
	} {
		checkPrint(t, api.ReProg{Insts: c.insts}, c.want)
		checkPrint(t, api.ReProg{Insts: c.insts, Lines: true}, "lines\n"+c.want)
	}
}

// from returns the bytes from first to last.
func from(first, last int) string {
	var list []byte
	for i := first; i <= last; i++ {
		list = append(list, byte(i))
	}
	return string(list)
}

func TestP10_3Sets(t *testing.T) {
	var even, odd []byte
	evenText, oddText := "", ""
	for i := 0; i < 256; i += 2 {
		even, odd = append(even, byte(i)), append(odd, byte(i+1))
		evenText += fmt.Sprintf(" %d", i)
		oddText += fmt.Sprintf(" %d", i+1)
	}
	for _, c := range []struct{ list, want string }{
		{"", ""},
		{"a", " 97"}, {"\x00", " 0"}, {"\xff", " 255"}, {"\n", " 10"}, {"\x09", " 9"}, {"\x63", " 99"}, {"\x64", " 100"},
		{"ab", " 97-98"}, {"abc", " 97-99"}, {"ac", " 97 99"}, {"cba", " 97-99"}, {"ca", " 97 99"},
		{"abde", " 97-98 100-101"}, {"abce", " 97-99 101"}, {"acde", " 97 99-101"}, {"aceg", " 97 99 101 103"},
		{"\x00\x01", " 0-1"}, {"\xfe\xff", " 254-255"}, {"\x00\xff", " 0 255"}, {"\x00\x01\xfe\xff", " 0-1 254-255"}, {"\x00\x02", " 0 2"}, {"\xfd\xff", " 253 255"},
		{"\x3f\x40", " 63-64"}, {"\x3f", " 63"}, {"\x40", " 64"}, {"\x3e\x3f", " 62-63"}, {"\x40\x41", " 64-65"}, {"\x3f\x41", " 63 65"}, {"\x3e\x40", " 62 64"},
		{"\x7f\x80", " 127-128"}, {"\x7f\x81", " 127 129"}, {"\xbf\xc0", " 191-192"}, {"\x3f\x40\x7f\x80\xbf\xc0", " 63-64 127-128 191-192"},
		{from(0, 63), " 0-63"}, {from(64, 127), " 64-127"}, {from(128, 191), " 128-191"}, {from(192, 255), " 192-255"}, {from(0, 127), " 0-127"}, {from(63, 192), " 63-192"},
		{from(0, 255), " 0-255"}, {from(0, 254), " 0-254"}, {from(1, 255), " 1-255"}, {from(1, 254), " 1-254"}, {from(0, 9) + from(11, 255), " 0-9 11-255"}, {from(0, 63) + from(128, 255), " 0-63 128-255"},
		{string(even), evenText}, {string(odd), oddText},
	} {
		checkPrint(t, api.ReProg{Insts: []api.ReInst{take(c.list), simple(api.InMatch)}}, "0 set"+c.want+"\n1 match\n")
		checkPrint(t, api.ReProg{Insts: []api.ReInst{simple(api.InEnd), take(c.list), jump(0)}, Lines: true}, "lines\n0 end\n1 set"+c.want+"\n2 jump 0\n")
	}
}

func TestP10_3AllPairsOfBytes(t *testing.T) {
	for i := range 256 {
		for k := i; k < 256; k++ {
			want := fmt.Sprintf("0 set %d %d\n1 match\n", i, k)
			switch k {
			case i:
				want = fmt.Sprintf("0 set %d\n1 match\n", i)
			case i + 1:
				want = fmt.Sprintf("0 set %d-%d\n1 match\n", i, k)
			}
			checkPrint(t, api.ReProg{Insts: []api.ReInst{take(string([]byte{byte(i), byte(k)})), simple(api.InMatch)}}, want)
			if k > i {
				checkPrint(t, api.ReProg{Insts: []api.ReInst{take(from(i, k)), simple(api.InMatch)}}, fmt.Sprintf("0 set %d-%d\n1 match\n", i, k))
			}
		}
	}
}

func TestP10_3FieldsThatAreNotLookedAt(t *testing.T) {
	for _, number := range []int{-1, 5, leastInt, greatestInt} {
		list := charsetOf("xyz")
		checkPrint(t, api.ReProg{Insts: []api.ReInst{
			{Op: api.InSet, Set: charsetOf("a"), X: number, Y: number},
			{Op: api.InSplit, Set: list, X: 0, Y: 2},
			{Op: api.InJump, Set: list, X: 3, Y: number},
			{Op: api.InBegin, Set: list, X: number, Y: number},
			{Op: api.InEnd, Set: list, X: number, Y: number},
			{Op: api.InMatch, Set: list, X: number, Y: number},
		}}, "0 set 97\n1 split 0 2\n2 jump 3\n3 begin\n4 end\n5 match\n")
	}
}

func TestP10_3OtherPrograms(t *testing.T) {
	for _, insts := range [][]api.ReInst{
		nil, {}, instsOf("set a"), instsOf("match, begin"), instsOf("match, end"), instsOf("split 0 1"), instsOf("split 1 0"), instsOf("split -1 0"), instsOf("jump 1"), instsOf("jump -1"), {{}}, {{Op: 7}}, {{Op: -1}, simple(api.InMatch)}, slices.Repeat(instsOf("match"), 4097),
	} {
		checkPrint(t, api.ReProg{Insts: insts}, "")
		checkPrint(t, api.ReProg{Insts: insts, Lines: true}, "")
	}
}

func TestP10_3GreatestPrograms(t *testing.T) {
	want := ""
	var insts []api.ReInst
	for i := range 4096 {
		insts = append(insts, split(4095-i, i))
		want += fmt.Sprintf("%d split %d %d\n", i, 4095-i, i)
	}
	checkPrint(t, api.ReProg{Insts: insts}, want)
	checkPrint(t, api.ReProg{Insts: append(insts, simple(api.InMatch))}, "")
	checkPrint(t, api.ReProg{Insts: slices.Repeat(instsOf("match"), 4096), Lines: true}, "lines\n"+definedPrint(api.ReProg{Insts: slices.Repeat(instsOf("match"), 4096)}))
}

// definedPrint returns a valid program as a string.
func definedPrint(p api.ReProg) string {
	var lines []string
	if p.Lines {
		lines = append(lines, "lines")
	}
	for i, inst := range p.Insts {
		line := fmt.Sprintf("%d %s", i, strings.Fields("set split jump begin end match")[inst.Op-1])
		switch inst.Op {
		case api.InSet:
			line += definedSets(inst.Set)
		case api.InSplit:
			line += fmt.Sprintf(" %d %d", inst.X, inst.Y)
		case api.InJump:
			line += fmt.Sprintf(" %d", inst.X)
		}
		lines = append(lines, line)
	}
	return strings.Join(lines, "\n") + "\n"
}

// definedSets looks at each byte: a sequence begins where the byte before it is not in the set, and ends where the byte after it is not.
func definedSets(c api.Charset) string {
	has := func(i int) bool { return 0 <= i && i < 256 && c.Bits[i/64]>>(i%64)&1 == 1 }
	text := ""
	for i := range 256 {
		if has(i) && !has(i-1) {
			text += fmt.Sprintf(" %d", i)
		}
		if has(i) && has(i-1) && !has(i+1) {
			text += fmt.Sprintf("-%d", i)
		}
	}
	return text
}

func TestP10_3RandomPrograms(t *testing.T) {
	random := rand.New(rand.NewSource(1031))
	for range 20000 {
		p := randomProgram(random, 12)
		checkPrint(t, p, definedPrint(p))
	}
	for _, e := range validTrees(1032, 2000, 4, 4) {
		if p, err := reprog.Compile(e, true); err == api.OK {
			checkPrint(t, p, definedPrint(p))
		}
	}
}
