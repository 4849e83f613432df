package num_test

import (
	"math"
	"math/big"
	"strconv"
	"strings"
	"testing"

	"texttools/api"
	"texttools/num"
)

const (
	least    = math.MinInt
	greatest = math.MaxInt
)

// A call is a pair of operands with the result and the error that the chapter requires.
type call struct {
	a, b, want int
	err        api.Errno
}

func checkCalls(t *testing.T, name string, f func(a, b int) (int, api.Errno), calls []call) {
	t.Helper()
	for _, c := range calls {
		if got, err := f(c.a, c.b); got != c.want || err != c.err {
			t.Errorf("%s(%d, %d) = %d, %d; want %d, %d", name, c.a, c.b, got, err, c.want, c.err)
		}
	}
}

func TestP1_1Add(t *testing.T) {
	checkCalls(t, "Add", num.Add, []call{
		{2, 3, 5, api.OK},
		{-2, 3, 1, api.OK},
		{2, -3, -1, api.OK},
		{0, 0, 0, api.OK},
		{greatest - 1, 1, greatest, api.OK},
		{greatest, 0, greatest, api.OK},
		{greatest, 1, 0, api.ErrOverflow},
		{1, greatest, 0, api.ErrOverflow},
		{greatest, greatest, 0, api.ErrOverflow},
		{least + 1, -1, least, api.OK},
		{least, 0, least, api.OK},
		{least, -1, 0, api.ErrOverflow},
		{-1, least, 0, api.ErrOverflow},
		{least, least, 0, api.ErrOverflow},
		{greatest, least, -1, api.OK},
		{least, greatest, -1, api.OK},
	})
}

func TestP1_1Sub(t *testing.T) {
	checkCalls(t, "Sub", num.Sub, []call{
		{5, 3, 2, api.OK},
		{3, 5, -2, api.OK},
		{-3, -5, 2, api.OK},
		{0, 0, 0, api.OK},
		{greatest - 1, -1, greatest, api.OK},
		{greatest, -1, 0, api.ErrOverflow},
		{least + 1, 1, least, api.OK},
		{least, 1, 0, api.ErrOverflow},
		{0, greatest, least + 1, api.OK},
		{-1, greatest, least, api.OK},
		{-2, greatest, 0, api.ErrOverflow},
		{-1, least, greatest, api.OK},
		{0, least, 0, api.ErrOverflow},
		{greatest, least, 0, api.ErrOverflow},
		{least, greatest, 0, api.ErrOverflow},
		{least, least, 0, api.OK},
		{greatest, greatest, 0, api.OK},
	})
}

func TestP1_1Mul(t *testing.T) {
	checkCalls(t, "Mul", num.Mul, []call{
		{6, 7, 42, api.OK},
		{-6, 7, -42, api.OK},
		{6, -7, -42, api.OK},
		{-6, -7, 42, api.OK},
		{0, least, 0, api.OK},
		{least, 0, 0, api.OK},
		{least, 1, least, api.OK},
		{1, least, least, api.OK},
		{least, -1, 0, api.ErrOverflow},
		{-1, least, 0, api.ErrOverflow},
		{greatest, -1, least + 1, api.OK},
		{3037000499, 3037000499, 9223372030926249001, api.OK},
		{3037000500, 3037000500, 0, api.ErrOverflow},
		{-3037000500, 3037000500, 0, api.ErrOverflow},
		{1 << 62, 2, 0, api.ErrOverflow},
		{1 << 62, -2, least, api.OK},
		{-2, 1 << 62, least, api.OK},
		{1 << 32, 1 << 32, 0, api.ErrOverflow},
		{greatest, greatest, 0, api.ErrOverflow},
		{least, least, 0, api.ErrOverflow},
		{least, 2, 0, api.ErrOverflow},
	})
}

func TestP1_2Div(t *testing.T) {
	checkCalls(t, "Div", num.Div, []call{
		{7, 2, 3, api.OK},
		{-7, 2, -4, api.OK},
		{7, -2, -4, api.OK},
		{-7, -2, 3, api.OK},
		{6, 2, 3, api.OK},
		{-6, 2, -3, api.OK},
		{6, -2, -3, api.OK},
		{-6, -2, 3, api.OK},
		{1, 2, 0, api.OK},
		{-1, 2, -1, api.OK},
		{1, -2, -1, api.OK},
		{-1, -2, 0, api.OK},
		{0, 5, 0, api.OK},
		{0, -5, 0, api.OK},
		{0, 0, 0, api.ErrDivide},
		{1, 0, 0, api.ErrDivide},
		{least, 0, 0, api.ErrDivide},
		{least, -1, 0, api.ErrOverflow},
		{least, 1, least, api.OK},
		{least, 2, -1 << 62, api.OK},
		{least, -2, 1 << 62, api.OK},
		{least, least, 1, api.OK},
		{least, greatest, -2, api.OK},
		{greatest, least, -1, api.OK},
		{greatest, -1, least + 1, api.OK},
		{least + 1, -1, greatest, api.OK},
	})
}

func TestP1_3Format(t *testing.T) {
	for n, want := range map[int]string{
		0: "0", 1: "1", -1: "-1", 9: "9", 10: "10", -10: "-10", 99: "99", 100: "100", 1234567890: "1234567890",
		999999999999999999: "999999999999999999", 1000000000000000000: "1000000000000000000",
		greatest: "9223372036854775807", least: "-9223372036854775808",
	} {
		if got := num.Format(n); got != want {
			t.Errorf("Format(%d) = %q, want %q", n, got, want)
		}
	}
}

func TestP1_3Parse(t *testing.T) {
	for s, want := range map[string]int{
		"0": 0, "1": 1, "-1": -1, "-5": -5, "10": 10, "-100": -100, "1234567890": 1234567890,
		"9223372036854775807": greatest, "-9223372036854775807": -greatest, "-9223372036854775808": least,
	} {
		if got, err := num.Parse(s); got != want || err != api.OK {
			t.Errorf("Parse(%q) = %d, %d; want %d, 0", s, got, err, want)
		}
	}
}

func checkParseError(t *testing.T, want api.Errno, texts []string) {
	t.Helper()
	for _, s := range texts {
		if n, err := num.Parse(s); n != 0 || err != want {
			t.Errorf("Parse(%q) = %d, %d; want 0, %d", s, n, err, want)
		}
	}
}

func TestP1_3ParseSyntax(t *testing.T) {
	checkParseError(t, api.ErrSyntax, []string{
		"", "-", "--1", "+", "+1", "-+1", "1-", "1-2", "-0", "00", "-00", "007", "-007", "01", "-01",
		" 1", "1 ", "- 1", "1\n", "\t1", "1_000", "1.0", "1e3", "0x1", "a", "1a", "a1", "/", ":", "1/", "1:",
		"\x00", "1\x00", "\xff", "١", "−1",
	})
}

func TestP1_3ParseOverflow(t *testing.T) {
	zeros := strings.Repeat("0", 10000)
	checkParseError(t, api.ErrOverflow, []string{
		"9223372036854775808", "-9223372036854775809", "9223372036854775810", "-9223372036854775810",
		"18446744073709551615", "18446744073709551616", "18446744073709551617", "-18446744073709551616",
		"99999999999999999999999", "-99999999999999999999999", "1" + zeros, "-1" + zeros,
	})
}

func TestP1_3ParseSyntaxBeforeOverflow(t *testing.T) {
	zeros := strings.Repeat("0", 10000)
	checkParseError(t, api.ErrSyntax, []string{
		"9999999999999999999x", "-9999999999999999999x", "9223372036854775808 ", "99999999999999999999-",
		"09223372036854775808", zeros, "-" + zeros, "1" + zeros + ".",
	})
}

// edges returns ints around 0, around powers of 2 and of 10, and around both ends of their range.
func edges() []int {
	list := []int{0, 3037000499, 3037000500, -3037000499, -3037000500}
	around := func(n int) {
		for d := -2; d <= 2; d++ {
			list = append(list, n+d, -(n + d))
		}
	}
	for shift := 0; shift < 64; shift += 3 {
		around(1 << shift)
	}
	for n := 1; n <= greatest/10; n *= 10 {
		around(n)
	}
	around(greatest)
	return append(list, least, least/2, least/3, greatest/2, greatest/3)
}

func forPairs(f func(a, b int)) {
	list := edges()
	for _, a := range list {
		for _, b := range list {
			f(a, b)
		}
	}
}

// exact returns what a function must answer whose exact result is x.
func exact(x *big.Int) (int, api.Errno) {
	if !x.IsInt64() {
		return 0, api.ErrOverflow
	}
	return int(x.Int64()), api.OK
}

func TestP1_1AgainstBigIntegers(t *testing.T) {
	for name, f := range map[string]struct {
		checked func(a, b int) (int, api.Errno)
		big     func(z, a, b *big.Int) *big.Int
	}{
		"Add": {num.Add, (*big.Int).Add},
		"Sub": {num.Sub, (*big.Int).Sub},
		"Mul": {num.Mul, (*big.Int).Mul},
	} {
		forPairs(func(a, b int) {
			want, wantErr := exact(f.big(new(big.Int), big.NewInt(int64(a)), big.NewInt(int64(b))))
			if got, err := f.checked(a, b); got != want || err != wantErr {
				t.Errorf("%s(%d, %d) = %d, %d; want %d, %d", name, a, b, got, err, want, wantErr)
			}
		})
	}
}

// floorQuotient uses big.Int's Euclidean division, which rounds down only for divisors that are not negative.
func floorQuotient(a, b int) *big.Int {
	x, y := big.NewInt(int64(a)), big.NewInt(int64(b))
	if b < 0 {
		x.Neg(x)
		y.Neg(y)
	}
	return x.Div(x, y)
}

func TestP1_2AgainstBigIntegers(t *testing.T) {
	forPairs(func(a, b int) {
		want, wantErr := 0, api.ErrDivide
		if b != 0 {
			want, wantErr = exact(floorQuotient(a, b))
		}
		if got, err := num.Div(a, b); got != want || err != wantErr {
			t.Errorf("Div(%d, %d) = %d, %d; want %d, %d", a, b, got, err, want, wantErr)
		}
	})
}

func TestP1_4Remainder(t *testing.T) {
	forPairs(func(a, b int) {
		q, err := num.Div(a, b)
		if err != api.OK {
			return
		}
		r := a - b*q
		if !(0 <= r && r < b || b < r && r <= 0) {
			t.Errorf("Div(%d, %d) = %d leaves the remainder %d", a, b, q, r)
		}
	})
}

func TestP1_4Undo(t *testing.T) {
	forPairs(func(a, b int) {
		if sum, err := num.Add(a, b); err == api.OK {
			if back, err := num.Sub(sum, b); back != a || err != api.OK {
				t.Errorf("Sub(Add(%d, %d), %d) = %d, %d", a, b, b, back, err)
			}
		}
		if product, err := num.Mul(a, b); err == api.OK && b != 0 {
			if back, err := num.Div(product, b); back != a || err != api.OK {
				t.Errorf("Div(Mul(%d, %d), %d) = %d, %d", a, b, b, back, err)
			}
		}
	})
}

func TestP1_4RoundTrips(t *testing.T) {
	for _, n := range edges() {
		s := num.Format(n)
		if back, err := num.Parse(s); back != n || err != api.OK {
			t.Errorf("Parse(Format(%d)) = %d, %d", n, back, err)
		}
		text := strconv.Itoa(n)
		if back, err := num.Parse(text); num.Format(back) != text || err != api.OK {
			t.Errorf("Format(Parse(%q)) = %q, %d", text, num.Format(back), err)
		}
	}
}
