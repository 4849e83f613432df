package decimal_test

import (
	"math"
	"math/big"
	"testing"

	"texttools/api"
	"texttools/decimal"
)

const (
	one       = api.Dec(api.DecOne)
	greatest  = api.Dec(api.MaxDec)
	least     = -greatest
	mostWhole = api.MaxDec / api.DecOne
)

// invalid contains Decs just outside of the valid range and far outside of it.
var invalid = []api.Dec{greatest + 1, least - 1, greatest + one, least - one, math.MaxInt, math.MinInt, math.MaxInt - 1, math.MinInt + 1}

// edges returns valid Decs around 0, powers of 10 and of 2, and both ends of the range.
func edges() []api.Dec {
	list := []api.Dec{15000, 25000, 3333, 6667, 7, 3162277, 3162278, 31622776601, 316227766016, 316227766017, 123456789}
	for n := api.Dec(1); n <= greatest; n *= 10 {
		list = append(list, n-1, n, n+1, 5*n, 5*n-1)
	}
	for n := api.Dec(2); n <= greatest; n *= 8 {
		list = append(list, n-1, n)
	}
	list = append(list, greatest/2, greatest/2+1, greatest/3, greatest-1, greatest-one)
	valid := []api.Dec{0}
	for _, n := range list {
		if n <= greatest {
			valid = append(valid, n, -n)
		}
	}
	return valid
}

func forPairs(f func(a, b api.Dec)) {
	list := edges()
	for _, a := range list {
		for _, b := range list {
			f(a, b)
		}
	}
}

// A call is a pair of operands with the result and the error that the chapter requires.
type call struct {
	a, b, want api.Dec
	err        api.Errno
}

func checkCalls(t *testing.T, name string, f func(a, b api.Dec) (api.Dec, api.Errno), calls []call) {
	t.Helper()
	for _, c := range calls {
		if got, err := f(c.a, c.b); got != c.want || err != c.err {
			t.Errorf("%s(%d, %d) = %d, %d; want %d, %d", name, c.a, c.b, got, err, c.want, c.err)
		}
	}
}

// checkRange tests that f puts ErrRange before all other errors, whichever of its arguments is not valid.
func checkRange(t *testing.T, name string, f func(a, b api.Dec) (api.Dec, api.Errno)) {
	t.Helper()
	for _, wrong := range invalid {
		for _, other := range append([]api.Dec{0, 1, -1, one, greatest, least}, invalid...) {
			checkCalls(t, name, f, []call{{wrong, other, 0, api.ErrRange}, {other, wrong, 0, api.ErrRange}})
		}
	}
}

// cutQuotient returns a / b cut to an integer, as the result of a function with the error ErrOverflow.
func cutQuotient(a, b *big.Int) (api.Dec, api.Errno) {
	q := new(big.Int).Quo(a, b)
	if q.CmpAbs(big.NewInt(api.MaxDec)) > 0 {
		return 0, api.ErrOverflow
	}
	return api.Dec(q.Int64()), api.OK
}

func bigOf(d api.Dec) *big.Int {
	return big.NewInt(int64(d))
}

func TestP2_1Valid(t *testing.T) {
	for _, d := range append(edges(), 0, 1, -1, greatest, least, greatest-1, least+1) {
		if !decimal.Valid(d) {
			t.Errorf("Valid(%d) = false", d)
		}
	}
	for _, d := range invalid {
		if decimal.Valid(d) {
			t.Errorf("Valid(%d) = true", d)
		}
	}
}

func TestP2_2FromInt(t *testing.T) {
	for _, n := range []int{0, 1, -1, 7, -42, 123456789, mostWhole - 1, mostWhole, -mostWhole, 1 - mostWhole} {
		if d, err := decimal.FromInt(n); d != api.Dec(n*api.DecOne) || err != api.OK {
			t.Errorf("FromInt(%d) = %d, %d", n, d, err)
		}
	}
	// Multiplied by DecOne, the last ones wrap to 0 and to a small number.
	for _, n := range []int{mostWhole + 1, -mostWhole - 1, api.MaxDec, -api.MaxDec, math.MaxInt, math.MinInt, 1 << 60, 1<<60 + 1, -1<<60 - 1} {
		if d, err := decimal.FromInt(n); d != 0 || err != api.ErrOverflow {
			t.Errorf("FromInt(%d) = %d, %d; want 0, %d", n, d, err, api.ErrOverflow)
		}
	}
}

func TestP2_3Int(t *testing.T) {
	for d, want := range map[api.Dec]int{
		0: 0, 1: 0, -1: 0, 9999: 0, -9999: 0, 10000: 1, -10000: -1, 10001: 1, -10001: -1, 19999: 1, -19999: -1, 20000: 2, -20000: -2,
		greatest - 1: mostWhole - 1, least + 1: 1 - mostWhole, greatest: mostWhole, least: -mostWhole,
		greatest + 1: mostWhole, least - 1: -mostWhole, greatest + one: mostWhole, least - one: -mostWhole,
		math.MaxInt: mostWhole, math.MinInt: -mostWhole,
	} {
		if got := decimal.Int(d); got != want {
			t.Errorf("Int(%d) = %d, want %d", d, got, want)
		}
	}
}

func TestP2_4Add(t *testing.T) {
	checkCalls(t, "Add", decimal.Add, []call{
		{2, 3, 5, api.OK}, {-2, 3, 1, api.OK}, {2, -3, -1, api.OK}, {-2, -3, -5, api.OK}, {0, 0, 0, api.OK},
		{greatest - 1, 1, greatest, api.OK}, {greatest, 0, greatest, api.OK}, {least + 1, -1, least, api.OK}, {0, least, least, api.OK},
		{greatest, 1, 0, api.ErrOverflow}, {1, greatest, 0, api.ErrOverflow}, {least, -1, 0, api.ErrOverflow}, {-1, least, 0, api.ErrOverflow},
		{greatest, greatest, 0, api.ErrOverflow}, {least, least, 0, api.ErrOverflow}, {greatest, least, 0, api.OK}, {least, greatest, 0, api.OK},
	})
	checkRange(t, "Add", decimal.Add)
}

func TestP2_4Sub(t *testing.T) {
	checkCalls(t, "Sub", decimal.Sub, []call{
		{5, 3, 2, api.OK}, {3, 5, -2, api.OK}, {-3, -5, 2, api.OK}, {-3, 5, -8, api.OK}, {0, 0, 0, api.OK},
		{greatest - 1, -1, greatest, api.OK}, {0, greatest, least, api.OK}, {0, least, greatest, api.OK}, {least + 1, 1, least, api.OK},
		{greatest, -1, 0, api.ErrOverflow}, {1, least, 0, api.ErrOverflow}, {least, 1, 0, api.ErrOverflow}, {-1, greatest, 0, api.ErrOverflow},
		{greatest, least, 0, api.ErrOverflow}, {least, greatest, 0, api.ErrOverflow}, {greatest, greatest, 0, api.OK}, {least, least, 0, api.OK},
	})
	checkRange(t, "Sub", decimal.Sub)
}

func TestP2_5Mul(t *testing.T) {
	checkCalls(t, "Mul", decimal.Mul, []call{
		{60000, 70000, 420000, api.OK}, {-60000, 70000, -420000, api.OK}, {60000, -70000, -420000, api.OK}, {-60000, -70000, 420000, api.OK},
		{15000, 15000, 22500, api.OK}, {100, 100, 1, api.OK}, {100, 10, 0, api.OK}, {-100, 10, 0, api.OK}, {3, 3333, 0, api.OK},
		{15001, 15001, 22503, api.OK}, {-15001, 15001, -22503, api.OK}, {15001, -15001, -22503, api.OK}, {-15001, -15001, 22503, api.OK},
		{19999, 1, 1, api.OK}, {-19999, 1, -1, api.OK}, {19999, -1, -1, api.OK}, {-19999, -1, 1, api.OK},
		{0, greatest, 0, api.OK}, {least, 0, 0, api.OK}, {1, 1, 0, api.OK}, {1, -1, 0, api.OK}, {-1, -1, 0, api.OK},
		{one, greatest, greatest, api.OK}, {greatest, one, greatest, api.OK}, {-one, greatest, least, api.OK}, {least, -one, greatest, api.OK},
		{9999, greatest, 9999000000000, api.OK}, {1, greatest, 1000000000, api.OK}, {1, least, -1000000000, api.OK},
		{one + 1, greatest, 0, api.ErrOverflow}, {greatest, one + 1, 0, api.ErrOverflow}, {-one - 1, greatest, 0, api.ErrOverflow},
		{greatest, greatest, 0, api.ErrOverflow}, {least, least, 0, api.ErrOverflow}, {greatest, least, 0, api.ErrOverflow},
		{316227766, 316227766, 9999999998935, api.OK}, {316227767, 316227767, 0, api.ErrOverflow}, {-316227767, 316227767, 0, api.ErrOverflow},
		{99999999999, 1000000, 9999999999900, api.OK}, {20000, 5000000000000, greatest, api.OK}, {10007, 9993004896572, greatest - 1, api.OK},
		// The exact products are 0.6011 units beyond the range, and cut to its ends; one unit more is an overflow.
		{10007, 9993004896573, greatest, api.OK}, {9993004896573, 10007, greatest, api.OK}, {-10007, 9993004896573, least, api.OK},
		{10007, 9993004896574, 0, api.ErrOverflow}, {10007, -9993004896574, 0, api.ErrOverflow},
		// Here the product with the whole part of the first factor is still an int, the complete product is not.
		{9223389999, 9999991366348, 0, api.ErrOverflow}, {-9223389999, 9999991366348, 0, api.ErrOverflow},
		// As machine words, these products wrap to small numbers.
		{1 << 42, 1 << 42, 0, api.ErrOverflow}, {1 << 32, 1 << 32, 0, api.ErrOverflow}, {-1 << 40, 1 << 40, 0, api.ErrOverflow},
	})
	checkRange(t, "Mul", decimal.Mul)
}

func TestP2_5Div(t *testing.T) {
	checkCalls(t, "Div", decimal.Div, []call{
		{one, 30000, 3333, api.OK}, {-one, 30000, -3333, api.OK}, {one, -30000, -3333, api.OK}, {-one, -30000, 3333, api.OK},
		{20000, 30000, 6666, api.OK}, {-20000, 30000, -6666, api.OK}, {20000, -30000, -6666, api.OK}, {-20000, -30000, 6666, api.OK},
		{60000, 20000, 30000, api.OK}, {10000, 40000, 2500, api.OK}, {0, 7, 0, api.OK}, {0, -7, 0, api.OK},
		{1, greatest, 0, api.OK}, {-1, greatest, 0, api.OK}, {greatest, greatest, one, api.OK}, {greatest, least, -one, api.OK},
		{greatest, one, greatest, api.OK}, {greatest, -one, least, api.OK}, {least, one, least, api.OK}, {least, -one, greatest, api.OK},
		{greatest, 1, 0, api.ErrOverflow}, {least, 1, 0, api.ErrOverflow}, {greatest, -1, 0, api.ErrOverflow}, {greatest, one - 1, 0, api.ErrOverflow},
		{1000000000, 1, greatest, api.OK}, {1000000000, -1, least, api.OK}, {1000000001, 1, 0, api.ErrOverflow}, {-1000000001, 1, 0, api.ErrOverflow},
		{9999000000000, 9999, greatest, api.OK}, {9999000000001, 9999, 0, api.ErrOverflow}, {9998999999999, 9999, greatest - 2, api.OK},
		{7000000000, 7, greatest, api.OK}, {-7000000000, 7, least, api.OK}, {7000000001, 7, 0, api.ErrOverflow}, {7000000001, -7, 0, api.ErrOverflow},
		{greatest - 1, 9999, 0, api.ErrOverflow}, {greatest - 1, one, greatest - 1, api.OK},
		{0, 0, 0, api.ErrDivide}, {one, 0, 0, api.ErrDivide}, {-1, 0, 0, api.ErrDivide}, {greatest, 0, 0, api.ErrDivide}, {least, 0, 0, api.ErrDivide},
	})
	checkRange(t, "Div", decimal.Div)
}

func TestP2_5AgainstBigIntegers(t *testing.T) {
	unit := big.NewInt(api.DecOne)
	forPairs(func(a, b api.Dec) {
		product := new(big.Int).Mul(bigOf(a), bigOf(b))
		want, wantErr := cutQuotient(product, unit)
		checkCalls(t, "Mul", decimal.Mul, []call{{a, b, want, wantErr}})
		want, wantErr = 0, api.ErrDivide
		if b != 0 {
			want, wantErr = cutQuotient(new(big.Int).Mul(bigOf(a), unit), bigOf(b))
		}
		checkCalls(t, "Div", decimal.Div, []call{{a, b, want, wantErr}})
	})
}

func TestP2_6Mod(t *testing.T) {
	checkCalls(t, "Mod", decimal.Mod, []call{
		{75000, 20000, 15000, api.OK}, {-75000, 20000, -15000, api.OK}, {75000, -20000, 15000, api.OK}, {-75000, -20000, -15000, api.OK},
		{60000, 20000, 0, api.OK}, {-60000, 20000, 0, api.OK}, {60000, -20000, 0, api.OK}, {0, 5, 0, api.OK}, {0, -5, 0, api.OK},
		{5, 20000, 5, api.OK}, {-5, 20000, -5, api.OK}, {5, -20000, 5, api.OK}, {10000, 3000, 1000, api.OK},
		{greatest, 1, 0, api.OK}, {least, 1, 0, api.OK}, {least, -1, 0, api.OK}, {greatest, 3, 1, api.OK}, {least, 3, -1, api.OK},
		{greatest, greatest, 0, api.OK}, {greatest - 1, greatest, greatest - 1, api.OK}, {greatest, greatest - 1, 1, api.OK}, {least, greatest - 1, -1, api.OK},
		{5, 0, 0, api.ErrDivide}, {0, 0, 0, api.ErrDivide}, {-5, 0, 0, api.ErrDivide}, {greatest, 0, 0, api.ErrDivide}, {least, 0, 0, api.ErrDivide},
	})
	checkRange(t, "Mod", decimal.Mod)
}

func TestP2_6AgainstBigIntegers(t *testing.T) {
	forPairs(func(a, b api.Dec) {
		if b == 0 {
			return
		}
		rest := new(big.Int).Rem(bigOf(a), bigOf(b))
		checkCalls(t, "Mod", decimal.Mod, []call{{a, b, api.Dec(rest.Int64()), api.OK}})
		if rest.Sign() != 0 && (rest.Sign() < 0) != (a < 0) || rest.CmpAbs(bigOf(b)) >= 0 {
			t.Errorf("the remainder %d of %d and %d has the wrong sign or size", rest, a, b)
		}
	})
}

// A power is a call of Pow with the result and the error that the chapter requires.
type power struct {
	a    api.Dec
	n    int
	want api.Dec
	err  api.Errno
}

func checkPowers(t *testing.T, powers []power) {
	t.Helper()
	for _, p := range powers {
		if got, err := decimal.Pow(p.a, p.n); got != p.want || err != p.err {
			t.Errorf("Pow(%d, %d) = %d, %d; want %d, %d", p.a, p.n, got, err, p.want, p.err)
		}
	}
}

func TestP2_7Pow(t *testing.T) {
	checkPowers(t, []power{
		{20000, 0, one, api.OK}, {20000, 1, 20000, api.OK}, {20000, 2, 40000, api.OK}, {20000, 10, 10240000, api.OK}, {20000, 29, 5368709120000, api.OK},
		{20000, 30, 0, api.ErrOverflow}, {20000, 64, 0, api.ErrOverflow}, {-20000, 3, -80000, api.OK}, {-20000, 4, 160000, api.OK}, {-20000, 31, 0, api.ErrOverflow},
		{0, 0, one, api.OK}, {0, 1, 0, api.OK}, {0, 64, 0, api.OK}, {one, 64, one, api.OK}, {-one, 63, -one, api.OK}, {-one, 64, one, api.OK},
		{greatest, 0, one, api.OK}, {greatest, 1, greatest, api.OK}, {least, 1, least, api.OK}, {greatest, 2, 0, api.ErrOverflow}, {least, 64, 0, api.ErrOverflow},
		{100, 2, 1, api.OK}, {100, 3, 0, api.OK}, {100, 64, 0, api.OK}, {5000, 64, 0, api.OK}, {100000, 9, greatest, api.OK}, {100000, 10, 0, api.ErrOverflow},
		// Cuts after each product: 1.1111^2 is 1.23454321, and 1.2345 * 1.1111 is 1.37165295.
		{11111, 2, 12345, api.OK}, {11111, 3, 13716, api.OK}, {11111, 4, 15239, api.OK}, {-11111, 3, -13716, api.OK},
	})
}

func TestP2_7NegativePow(t *testing.T) {
	checkPowers(t, []power{
		{20000, -1, 5000, api.OK}, {20000, -2, 2500, api.OK}, {-20000, -3, -1250, api.OK}, {30000, -1, 3333, api.OK}, {-30000, -1, -3333, api.OK},
		{one, -64, one, api.OK}, {-one, -64, one, api.OK}, {-one, -63, -one, api.OK}, {1, -1, 100000000, api.OK}, {-1, -1, -100000000, api.OK},
		{greatest, -1, 0, api.OK}, {20000, -29, 0, api.OK}, {20000, -30, 0, api.ErrOverflow}, {20000, -64, 0, api.ErrOverflow}, {greatest, -2, 0, api.ErrOverflow},
		{0, -1, 0, api.ErrDivide}, {0, -64, 0, api.ErrDivide}, {100, -2, 100000000, api.OK}, {100, -3, 0, api.ErrDivide}, {5000, -64, 0, api.ErrDivide},
		{5000, -2, 40000, api.OK}, {11111, -2, 8100, api.OK}, {11111, -3, 7290, api.OK},
	})
}

func TestP2_7PowRange(t *testing.T) {
	for _, a := range []api.Dec{0, 1, one, 20000, -5, greatest, least, greatest + 1} {
		for _, n := range []int{65, -65, 100, -100, math.MaxInt, math.MinInt} {
			checkPowers(t, []power{{a, n, 0, api.ErrRange}})
		}
	}
	for _, a := range invalid {
		for n := -66; n <= 66; n++ {
			checkPowers(t, []power{{a, n, 0, api.ErrRange}})
		}
	}
}

// powByDefinition multiplies and divides as the chapter says, with big integers.
func powByDefinition(a api.Dec, n int) (api.Dec, api.Errno) {
	unit := big.NewInt(api.DecOne)
	product := one
	for range max(n, -n) {
		next, err := cutQuotient(new(big.Int).Mul(bigOf(product), bigOf(a)), unit)
		if err != api.OK {
			return 0, err
		}
		product = next
	}
	if n >= 0 {
		return product, api.OK
	}
	if product == 0 {
		return 0, api.ErrDivide
	}
	return cutQuotient(big.NewInt(api.DecOne*api.DecOne), bigOf(product))
}

func TestP2_7AgainstDefinition(t *testing.T) {
	for _, a := range append(edges(), 9999, 9990, 9900, 13000, 14000, -13000, 10001, 10010) {
		for n := -64; n <= 64; n++ {
			want, err := powByDefinition(a, n)
			checkPowers(t, []power{{a, n, want, err}})
		}
	}
}

func TestP2_8Round(t *testing.T) {
	for _, r := range []struct {
		d      api.Dec
		places int
		want   api.Dec
	}{
		{-25000, 0, -30000}, {25000, 0, 30000}, {15000, 0, 20000}, {4999, 0, 0}, {-4999, 0, 0}, {5000, 0, 10000}, {-5000, 0, -10000}, {14999, 0, 10000},
		{12345, 3, 12350}, {12344, 3, 12340}, {-12345, 3, -12350}, {-12344, 3, -12340}, {5, 3, 10}, {4, 3, 0}, {-5, 3, -10}, {-4, 3, 0},
		{50, 2, 100}, {49, 2, 0}, {-50, 2, -100}, {-49, 2, 0}, {150, 2, 200}, {12345, 2, 12300}, {12350, 2, 12400},
		{500, 1, 1000}, {499, 1, 0}, {-500, 1, -1000}, {-499, 1, 0}, {12345, 1, 12000}, {12500, 1, 13000},
		{12345, 4, 12345}, {-12345, 4, -12345}, {1, 4, 1}, {-1, 4, -1}, {0, 0, 0}, {0, 4, 0},
		{5000, -1, 10000}, {4999, -1, 0}, {12345, math.MinInt, 10000}, {12345, 5, 12345}, {12345, math.MaxInt, 12345}, {-9999, -2, -10000},
		{greatest - 1, 0, greatest}, {least + 1, 0, least}, {greatest, 0, greatest}, {least, 0, least}, {greatest, 4, greatest}, {least, 4, least},
		{greatest + 1, 4, greatest}, {least - 1, 4, least}, {greatest + 5000, 0, greatest}, {least - 5000, 0, least},
		{math.MaxInt, 0, greatest}, {math.MinInt, 0, least}, {math.MaxInt, 4, greatest}, {math.MinInt, 4, least}, {math.MaxInt, 9, greatest}, {math.MinInt, -9, least},
	} {
		if got := decimal.Round(r.d, r.places); got != r.want {
			t.Errorf("Round(%d, %d) = %d, want %d", r.d, r.places, got, r.want)
		}
	}
}

func TestP2_8Nearest(t *testing.T) {
	for _, d := range edges() {
		for places, unit := range []api.Dec{10000, 1000, 100, 10, 1} {
			got := decimal.Round(d, places)
			off := max(got-d, d-got)
			if got%unit != 0 || 2*off > unit || 2*off == unit && max(got, -got) < max(d, -d) {
				t.Errorf("Round(%d, %d) = %d", d, places, got)
			}
		}
	}
}

func TestP2_12AddSub(t *testing.T) {
	forPairs(func(a, b api.Dec) {
		sum, err := decimal.Add(a, b)
		checkCalls(t, "Add", decimal.Add, []call{{b, a, sum, err}})
		if err == api.OK {
			checkCalls(t, "Sub", decimal.Sub, []call{{sum, b, a, api.OK}, {sum, a, b, api.OK}})
		}
		product, err := decimal.Mul(a, b)
		checkCalls(t, "Mul", decimal.Mul, []call{{b, a, product, err}})
	})
}

func TestP2_12WholeFactors(t *testing.T) {
	for _, n := range []int{0, 1, -1, 2, -2, 3, 7, 10, -10, 999, 12345, mostWhole, -mostWhole} {
		whole, _ := decimal.FromInt(n)
		forPairs(func(a, b api.Dec) {
			ofA, errA := decimal.Mul(a, whole)
			if errA == api.OK && n != 0 {
				checkCalls(t, "Div", decimal.Div, []call{{ofA, whole, a, api.OK}})
			}
			ofB, errB := decimal.Mul(b, whole)
			sum, errSum := decimal.Add(a, b)
			sumOf, errOf := decimal.Add(ofA, ofB)
			if errA == api.OK && errB == api.OK && errSum == api.OK && errOf == api.OK {
				checkCalls(t, "Mul", decimal.Mul, []call{{sum, whole, sumOf, api.OK}})
			}
		})
	}
}

func TestP2_12Mod(t *testing.T) {
	forPairs(func(a, b api.Dec) {
		quotient, err := decimal.Div(a, b)
		if err != api.OK {
			return
		}
		whole, err := decimal.FromInt(decimal.Int(quotient))
		if err != api.OK {
			t.Errorf("FromInt(Int(%d)) = %d", quotient, err)
		}
		product, err := decimal.Mul(b, whole)
		if err != api.OK {
			t.Errorf("Mul(%d, %d) = %d", b, whole, err)
		}
		rest, err := decimal.Mod(a, b)
		if err != api.OK {
			t.Errorf("Mod(%d, %d) = %d", a, b, err)
		}
		checkCalls(t, "Add", decimal.Add, []call{{product, rest, a, api.OK}})
	})
}

// checkCut tests that d is nearer to zero than exact, or equal to it, by less than a unit of the fourth digit.
func checkCut(t *testing.T, name string, a, b, d api.Dec, exact *big.Rat) {
	t.Helper()
	scaled := new(big.Rat).Mul(exact, big.NewRat(api.DecOne, 1))
	rest := new(big.Rat).Sub(scaled, new(big.Rat).SetInt64(int64(d)))
	if new(big.Rat).Abs(rest).Cmp(big.NewRat(1, 1)) >= 0 || rest.Sign() != 0 && rest.Sign() != scaled.Sign() {
		t.Errorf("%s(%d, %d) = %d, cut from %s units", name, a, b, d, scaled.FloatString(6))
	}
}

func TestP2_13Cuts(t *testing.T) {
	forPairs(func(a, b api.Dec) {
		x, y := big.NewRat(int64(a), api.DecOne), big.NewRat(int64(b), api.DecOne)
		if product, err := decimal.Mul(a, b); err == api.OK {
			checkCut(t, "Mul", a, b, product, new(big.Rat).Mul(x, y))
		}
		if quotient, err := decimal.Div(a, b); err == api.OK {
			checkCut(t, "Div", a, b, quotient, new(big.Rat).Quo(x, y))
		}
	})
}
