package decimal_test

import (
	"math/big"
	"regexp"
	"strings"
	"testing"

	"texttools/api"
	"texttools/decimal"
)

// texts contains Decs with the decimal strings that the chapter requires.
var texts = map[api.Dec]string{
	0: "0", 1: "0.0001", -1: "-0.0001", 10: "0.001", 100: "0.01", 1000: "0.1", -1000: "-0.1", 10000: "1", -10000: "-1",
	-12500: "-1.25", 12345: "1.2345", 12340: "1.234", 12300: "1.23", 12000: "1.2", 10001: "1.0001", 10010: "1.001", 10100: "1.01",
	-10203: "-1.0203", 9999: "0.9999", -5000: "-0.5", 70000: "7", 100000: "10", 1000000: "100", 1234567890: "123456.789",
	-1002003004: "-100200.3004", greatest: "1000000000", least: "-1000000000", greatest - 1: "999999999.9999", least + 1: "-999999999.9999",
	greatest - one: "999999999", greatest - 10: "999999999.999",
}

func TestP2_9Parse(t *testing.T) {
	for want, s := range texts {
		if got, err := decimal.Parse(s); got != want || err != api.OK {
			t.Errorf("Parse(%q) = %d, %d; want %d, 0", s, got, err, want)
		}
	}
}

func checkParseError(t *testing.T, want api.Errno, list []string) {
	t.Helper()
	for _, s := range list {
		if got, err := decimal.Parse(s); got != 0 || err != want {
			t.Errorf("Parse(%q) = %d, %d; want 0, %d", s, got, err, want)
		}
	}
}

func TestP2_9ParseSyntax(t *testing.T) {
	zeros := strings.Repeat("0", 10000)
	checkParseError(t, api.ErrSyntax, []string{
		"", "-", "+", ".", "-.", "--", "-0", "+0", "+1", "-+1", "+-1", "--1", "--1.5", ".5", "-.5", "5.", "-5.", "0.", "-0.",
		"007", "-007", "00", "-00", "01", "00.5", "-00.5", "01.5", "1.50", "-1.50", "0.0", "-0.0", "1.0", "1.00", "0.10", "1.2340",
		"1.23456", "0.00001", "1.00000", "0.12340", "0.0000", "-0.0000", "1..5", "1.2.3", "1.-5", "1.+5", "-1.-5", "1.5-", "1-",
		" 1", "1 ", "- 1", "1. 5", "1 .5", "1.5 ", "1.5\n", "\t1", "1\x00", "1,5", "1_000", "1e3", "0x1", "a", "1a", "1.a", "1.5a", "a.5",
		"/", ":", "1/", "1:", "1./", "1.:", "\xff", "1.\xff", "١", "−1", "1.٣", zeros, "-" + zeros, "0." + zeros, "1." + zeros + "1",
	})
}

func TestP2_9ParseOverflow(t *testing.T) {
	zeros := strings.Repeat("0", 10000)
	checkParseError(t, api.ErrOverflow, []string{
		"1000000000.0001", "-1000000000.0001", "1000000000.1", "-1000000000.9999", "1000000001", "-1000000001", "1000000001.5", "10000000000",
		"922337203685477", "922337203685478", "922337203685477.5807", "-922337203685477.5808", "1844674407370955.1616", "1844674407370956",
		"9223372036854775807", "9223372036854775808", "-9223372036854775808", "-9223372036854775809", "18446744073709551616", "18446744073709551617.5",
		"-99999999999999999999999", "1" + zeros, "-1" + zeros, "1" + zeros + ".0001",
	})
}

func TestP2_9ParseSyntaxBeforeOverflow(t *testing.T) {
	zeros := strings.Repeat("0", 10000)
	checkParseError(t, api.ErrSyntax, []string{
		"1000000000.00001", "-1000000000.00001", "1000000000.", "1000000000.0", "1000000001.50", "+1000000001", "--1000000001", "01000000001",
		"9999999999999999999999x", "-9999999999999999999999x", "99999999999999999999999.", "99999999999999999999999.0", "99999999999999999999999.00001",
		"--99999999999999999999999", "99999999999999999999999.5 ", "1" + zeros + ".", "1" + zeros + ".x", "1" + zeros + "x.5",
	})
}

// A prefix is a string with the number at its beginning and the number of its bytes.
type prefix struct {
	s    string
	want api.Dec
	n    int
}

func checkPrefixes(t *testing.T, prefixes []prefix) {
	t.Helper()
	for _, p := range prefixes {
		if got, n := decimal.Prefix(p.s); got != p.want || n != p.n {
			t.Errorf("Prefix(%q) = %d, %d; want %d, %d", p.s, got, n, p.want, p.n)
		}
	}
}

func TestP2_10Prefix(t *testing.T) {
	checkPrefixes(t, []prefix{
		{" +3.50x", 35000, 6}, {"5.", 50000, 2}, {".5", 5000, 2}, {"1e3", 10000, 1}, {"42", 420000, 2}, {"-42", -420000, 3}, {"+42", 420000, 3},
		{"0", 0, 1}, {"-0", 0, 2}, {"+0", 0, 2}, {"-0.0", 0, 4}, {"007", 70000, 3}, {"-007.5", -75000, 6}, {"1.50", 15000, 4}, {"0.", 0, 2},
		{"-.5", -5000, 3}, {"+.5", 5000, 3}, {"-5.", -50000, 3}, {"5.x", 50000, 2}, {"5. 3", 50000, 2}, {"5..3", 50000, 2}, {".5.5", 5000, 2},
		{"1.2.3", 12000, 3}, {"1-2", 10000, 1}, {"1+2", 10000, 1}, {"1 2", 10000, 1}, {"1.5-", 15000, 3}, {"12ab", 120000, 2}, {"0x10", 0, 1},
		{"   7", 70000, 4}, {"\t7", 70000, 2}, {" \t \t-7.25 ", -72500, 9}, {"7\n", 70000, 1}, {"1\x00", 10000, 1}, {"1\xff", 10000, 1}, {"1,5", 10000, 1},
		{"1/", 10000, 1}, {"1:", 10000, 1}, {"1./", 10000, 2}, {"1.:", 10000, 2}, {"1.2٣", 12000, 3},
	})
}

func TestP2_10NoPrefix(t *testing.T) {
	for _, s := range []string{
		"", "-", "+", ".", "-.", "+.", " ", "\t", "  \t ", " -", " .", "- 5", "+ 5", "-\t5", "--5", "++5", "+-5", "-+5", ". 5", "-. 5", "..5", "-..5", ".-5",
		"x", "x5", "abc", "\n5", "\r5", "\v5", "\x005", "\xff5", "\u00a05", "e3", ".e3", "٣", "−5", "/", ":", "-/5", "./5",
	} {
		checkPrefixes(t, []prefix{{s, 0, 0}})
	}
}

func TestP2_10PrefixDigits(t *testing.T) {
	zeros, nines, blanks := strings.Repeat("0", 5000), strings.Repeat("9", 5000), strings.Repeat(" \t", 500)
	checkPrefixes(t, []prefix{
		{"1.23456", 12345, 7}, {"1.99999", 19999, 7}, {"-1.99999", -19999, 8}, {"0.00009", 0, 7}, {"-0.00009", 0, 8}, {".00019", 1, 6}, {"-.00019", -1, 7},
		{"1.2", 12000, 3}, {"1.02", 10200, 4}, {"1.002", 10020, 5}, {"1.0002", 10002, 6}, {"1.00002", 10000, 7},
		{"1000000000", greatest, 10}, {"-1000000000", least, 11}, {"999999999.9999", greatest - 1, 14}, {"999999999.99999", greatest - 1, 15},
		{"1000000000.00009", greatest, 16}, {"1000000000.0001", greatest, 15}, {"-1000000000.0001", least, 16}, {"1000000001", greatest, 10},
		{"99999999999", greatest, 11}, {"-99999999999", least, 12}, {"99999999999.5x", greatest, 13}, {"10000000000", greatest, 11},
		{"9223372036854775808", greatest, 19}, {"18446744073709551616", greatest, 20}, {"-18446744073709551617", least, 21}, {"1844674407370955.1617", greatest, 21},
		{zeros + "7", 70000, 5001}, {zeros, 0, 5000}, {"-" + zeros + "7.5", -75000, 5004}, {"1" + zeros, greatest, 5001}, {"-1" + zeros + "x", least, 5002},
		{nines, greatest, 5000}, {"+" + nines + "." + nines, greatest, 10002}, {"-" + nines + ".", least, 5002}, {"0." + nines, 9999, 5002}, {"-." + nines, -9999, 5002},
		{"1." + zeros + "1", 10000, 5003}, {blanks + "7", 70000, 1001}, {blanks + "-7.", -70000, 1003}, {blanks, 0, 0}, {blanks + "-x", 0, 0},
	})
}

func TestP2_11Format(t *testing.T) {
	for d, want := range texts {
		if got := decimal.Format(d); got != want {
			t.Errorf("Format(%d) = %q, want %q", d, got, want)
		}
	}
	for _, d := range invalid {
		want := "1000000000"
		if d < 0 {
			want = "-1000000000"
		}
		if got := decimal.Format(d); got != want {
			t.Errorf("Format(%d) = %q, want %q", d, got, want)
		}
	}
}

var (
	decimalString = regexp.MustCompile(`^-?(0|[1-9][0-9]*)(\.[0-9]{0,3}[1-9])?$`)
	prefixString  = regexp.MustCompile(`^[ \t]*([+-]?([0-9]+(\.[0-9]*)?|\.[0-9]+))`)
)

// cutRat returns how many units of the fourth digit the text denotes, cut, and whether it denotes a valid number.
func cutRat(s string) (api.Dec, bool) {
	r, ok := new(big.Rat).SetString(s)
	if !ok {
		return 0, false
	}
	r.Mul(r, big.NewRat(api.DecOne, 1))
	q := new(big.Int).Quo(r.Num(), r.Denom())
	if r.Sign() < 0 && r.Cmp(big.NewRat(-api.MaxDec, 1)) < 0 || r.Cmp(big.NewRat(api.MaxDec, 1)) > 0 {
		return 0, false
	}
	return api.Dec(q.Int64()), true
}

func parseByDefinition(s string) (api.Dec, api.Errno) {
	if !decimalString.MatchString(s) || s == "-0" {
		return 0, api.ErrSyntax
	}
	d, valid := cutRat(s)
	if !valid {
		return 0, api.ErrOverflow
	}
	return d, api.OK
}

func prefixByDefinition(s string) (api.Dec, int) {
	at := prefixString.FindStringSubmatchIndex(s)
	if at == nil {
		return 0, 0
	}
	number := s[at[2]:at[3]]
	d, valid := cutRat(number)
	switch {
	case valid:
		return d, at[1]
	case number[0] == '-':
		return least, at[1]
	}
	return greatest, at[1]
}

// checkText compares Parse and Prefix of s with their definitions.
func checkText(t *testing.T, s string) {
	t.Helper()
	want, wantErr := parseByDefinition(s)
	if got, err := decimal.Parse(s); got != want || err != wantErr {
		t.Errorf("Parse(%q) = %d, %d; want %d, %d", s, got, err, want, wantErr)
	}
	d, n := prefixByDefinition(s)
	checkPrefixes(t, []prefix{{s, d, n}})
}

// forStrings calls f with all strings of at most n characters of the alphabet that begin with start.
func forStrings(alphabet, start string, n int, f func(s string)) {
	f(start)
	if n == 0 {
		return
	}
	for i := range len(alphabet) {
		forStrings(alphabet, start+alphabet[i:i+1], n-1, f)
	}
}

func TestP2_9AndP2_10ShortStrings(t *testing.T) {
	forStrings("-+. 07x", "", 6, func(s string) { checkText(t, s) })
	for _, whole := range []string{"999999999", "-999999999", "1000000000", "-1000000000", "1000000001", " 1000000000", "0001000000000"} {
		forStrings(".019-", whole, 6, func(s string) { checkText(t, s) })
	}
}

func TestP2_14RoundTrip(t *testing.T) {
	check := func(d api.Dec) {
		s := decimal.Format(d)
		if back, err := decimal.Parse(s); back != d || err != api.OK {
			t.Errorf("Parse(Format(%d)) = %d, %d", d, back, err)
		}
		checkPrefixes(t, []prefix{{s, d, len(s)}})
	}
	for d := api.Dec(-30000); d <= 30000; d++ {
		check(d)
	}
	for d := greatest - 11000; d <= greatest; d++ {
		check(d)
		check(-d)
	}
	for _, d := range edges() {
		check(d)
	}
}

func TestP2_14FormatOfParse(t *testing.T) {
	check := func(s string) {
		if d, err := decimal.Parse(s); err == api.OK && decimal.Format(d) != s {
			t.Errorf("Format(Parse(%q)) = %q", s, decimal.Format(d))
		}
	}
	for _, s := range texts {
		check(s)
	}
	forStrings("-.0159", "", 7, check)
	forStrings(".0159", "999999999", 6, check)
}

func TestP2_9AndP2_10HugeTexts(t *testing.T) {
	digits := strings.Repeat("5", api.MaxText*16)
	checkPrefixes(t, []prefix{{digits, greatest, len(digits)}, {"." + digits, 5555, len(digits) + 1}})
	checkParseError(t, api.ErrOverflow, []string{digits, "-" + digits})
	checkParseError(t, api.ErrSyntax, []string{"0." + digits, digits + "x"})
}
