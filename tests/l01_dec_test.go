package tests

import (
	"math"
	"math/big"
	"strings"
	"testing"

	"loop.example/g00700/impl"
)

type decOp func(a int, b int) (int, bool)

// The least and the greatest int are here because negating or multiplying
// them wraps around.
var notDecimals = []int{
	math.MinInt, math.MinInt + 1, -impl.MaxDec * impl.One, -impl.MaxDec - impl.One, -impl.MaxDec - 1,
	impl.MaxDec + 1, impl.MaxDec + impl.One, impl.MaxDec * impl.One, math.MaxInt - 1, math.MaxInt,
}

// decimals returns the ends of the range, small numbers, numbers whose product
// is near MaxDec, and a fixed sequence spread over all magnitudes.
func decimals() []int {
	positive := []int{
		1, 2, 3, 7, 9, 10, 99, 100, 101, 1000, 65536, 100000, 123456, 333333, 499999, 500000, 500001, 999999,
		impl.One, impl.One + 1, 1500000, 1999999, 2000000, 2000001, 2250000, 3000000, 7000000, 7500000, 9999999,
		10000000, 2999999999, 3000000000, 3000000001, 4500000000000, 4500000000001, 3000001000000,
		impl.MaxDec - impl.One, impl.MaxDec - 1, impl.MaxDec,
	}
	seed := uint64(20)
	for i := range 60 {
		seed = seed*6364136223846793005 + 1442695040888963407
		positive = append(positive, int(seed>>(22+i%40))%impl.MaxDec)
	}
	all := []int{0}
	for _, n := range positive {
		all = append(all, n, -n)
	}
	return all
}

func checkOp(t *testing.T, name string, op decOp, exact func(a, b *big.Int) *big.Int) {
	t.Helper()
	limit := big.NewInt(impl.MaxDec)
	for _, a := range decimals() {
		for _, b := range decimals() {
			want, wantOk := 0, false
			e := exact(big.NewInt(int64(a)), big.NewInt(int64(b)))
			if e != nil && e.CmpAbs(limit) <= 0 {
				want, wantOk = int(e.Int64()), true
			}
			if got, ok := op(a, b); got != want || ok != wantOk {
				t.Fatalf("%s(%d, %d) = %d, %v; want %d, %v", name, a, b, got, ok, want, wantOk)
			}
		}
	}
}

func TestDecOperationsAreExact(t *testing.T) {
	one := big.NewInt(impl.One)
	checkOp(t, "DecAdd", impl.DecAdd, func(a, b *big.Int) *big.Int { return new(big.Int).Add(a, b) })
	checkOp(t, "DecSub", impl.DecSub, func(a, b *big.Int) *big.Int { return new(big.Int).Sub(a, b) })
	checkOp(t, "DecMul", impl.DecMul, func(a, b *big.Int) *big.Int {
		product := new(big.Int).Mul(a, b)
		return product.Quo(product, one)
	})
	checkOp(t, "DecDiv", impl.DecDiv, func(a, b *big.Int) *big.Int {
		if b.Sign() == 0 {
			return nil
		}
		scaled := new(big.Int).Mul(a, one)
		return scaled.Quo(scaled, b)
	})
	checkOp(t, "DecMod", impl.DecMod, func(a, b *big.Int) *big.Int {
		if b.Sign() == 0 {
			return nil
		}
		return new(big.Int).Rem(a, b)
	})
}

func TestDecOperationsOnChosenNumbers(t *testing.T) {
	const most = impl.MaxDec
	for _, c := range []struct {
		name string
		op   decOp
		a, b int
		want int
		ok   bool
	}{
		{"DecAdd", impl.DecAdd, 1500000, 2250000, 3750000, true},
		{"DecAdd", impl.DecAdd, -1500000, -2250000, -3750000, true},
		{"DecAdd", impl.DecAdd, most - 1, 1, most, true},
		{"DecAdd", impl.DecAdd, most, 1, 0, false},
		{"DecAdd", impl.DecAdd, -most, -1, 0, false},
		{"DecAdd", impl.DecAdd, 1 - most, -1, -most, true},
		{"DecSub", impl.DecSub, 1500000, 2250000, -750000, true},
		{"DecSub", impl.DecSub, most, -1, 0, false},
		{"DecSub", impl.DecSub, -most, 1, 0, false},
		{"DecSub", impl.DecSub, 1 - most, 1, -most, true},
		{"DecMul", impl.DecMul, 1500000, 2000000, 3000000, true},
		{"DecMul", impl.DecMul, -1500000, 2000001, -3000001, true},
		{"DecMul", impl.DecMul, 1500000, 2000001, 3000001, true},
		{"DecMul", impl.DecMul, -1500000, -2000001, 3000001, true},
		{"DecMul", impl.DecMul, -1, 999999, 0, true},
		{"DecMul", impl.DecMul, 3000000000, 3000000000, most, true},
		{"DecMul", impl.DecMul, -3000000000, 3000000000, -most, true},
		{"DecMul", impl.DecMul, 3000000000, 3000000001, 0, false},
		{"DecMul", impl.DecMul, most, impl.One, most, true},
		{"DecMul", impl.DecMul, most, impl.One + 1, 0, false},
		{"DecMul", impl.DecMul, -most, impl.One + 1, 0, false},
		{"DecMul", impl.DecMul, most, most, 0, false},
		{"DecMul", impl.DecMul, -most, most, 0, false},
		{"DecMul", impl.DecMul, 3000001000000, 3000000, 0, false},
		// The square of this one is One times 2 to the power of 64.
		{"DecMul", impl.DecMul, 1000 << 32, 1000 << 32, 0, false},
		{"DecMul", impl.DecMul, 1000<<32 - 1, 1000 << 32, 0, false},
		{"DecDiv", impl.DecDiv, -7000000, 2000000, -3500000, true},
		{"DecDiv", impl.DecDiv, 2000000, 3000000, 666666, true},
		{"DecDiv", impl.DecDiv, -2000000, 3000000, -666666, true},
		{"DecDiv", impl.DecDiv, 2000000, -3000000, -666666, true},
		{"DecDiv", impl.DecDiv, -1, most, 0, true},
		{"DecDiv", impl.DecDiv, most, impl.One, most, true},
		{"DecDiv", impl.DecDiv, most, impl.One - 1, 0, false},
		{"DecDiv", impl.DecDiv, -most, impl.One - 1, 0, false},
		{"DecDiv", impl.DecDiv, most, 1, 0, false},
		{"DecDiv", impl.DecDiv, impl.One, 0, 0, false},
		{"DecDiv", impl.DecDiv, 0, 0, 0, false},
		{"DecMod", impl.DecMod, -7500000, 2000000, -1500000, true},
		{"DecMod", impl.DecMod, 7500000, -2000000, 1500000, true},
		{"DecMod", impl.DecMod, 7500000, 2000000, 1500000, true},
		{"DecMod", impl.DecMod, -6000000, 2000000, 0, true},
		// The quotient of this one is not a decimal, but the remainder is.
		{"DecMod", impl.DecMod, most, 7, most % 7, true},
		{"DecMod", impl.DecMod, impl.One, 0, 0, false},
		{"DecMod", impl.DecMod, 0, 0, 0, false},
	} {
		if got, ok := c.op(c.a, c.b); got != c.want || ok != c.ok {
			t.Errorf("%s(%d, %d) = %d, %v; want %d, %v", c.name, c.a, c.b, got, ok, c.want, c.ok)
		}
	}
}

func TestDecArgumentsThatAreNotDecimals(t *testing.T) {
	ops := map[string]decOp{
		"DecAdd": impl.DecAdd, "DecSub": impl.DecSub, "DecMul": impl.DecMul, "DecDiv": impl.DecDiv, "DecMod": impl.DecMod,
	}
	others := append([]int{0, 1, -1, impl.One, -impl.One, impl.MaxDec, -impl.MaxDec}, notDecimals...)
	for _, n := range notDecimals {
		for _, m := range others {
			for name, op := range ops {
				if got, ok := op(n, m); got != 0 || ok {
					t.Errorf("%s(%d, %d) = %d, %v; want 0, false", name, n, m, got, ok)
				}
				if got, ok := op(m, n); got != 0 || ok {
					t.Errorf("%s(%d, %d) = %d, %v; want 0, false", name, m, n, got, ok)
				}
			}
			if impl.DecCmp(n, m) != 0 || impl.DecCmp(m, n) != 0 {
				t.Errorf("DecCmp of %d and %d is not 0", n, m)
			}
		}
		if impl.DecOk(n) || impl.DecInt(n) != 0 || impl.DecFrac(n) != 0 || impl.DecNeg(n) != 0 || impl.DecText(n) != "" {
			t.Errorf("%d is taken for a decimal", n)
		}
	}
}

func TestDecParts(t *testing.T) {
	for _, n := range decimals() {
		whole, frac := impl.DecInt(n), impl.DecFrac(n)
		if whole%impl.One != 0 || whole+frac != n || frac <= -impl.One || frac >= impl.One {
			t.Errorf("%d has the parts %d and %d", n, whole, frac)
		}
		if n > 0 && (whole < 0 || frac < 0) || n < 0 && (whole > 0 || frac > 0) {
			t.Errorf("%d has the parts %d and %d, not truncated towards 0", n, whole, frac)
		}
		if !impl.DecOk(n) || impl.DecNeg(n) != -n {
			t.Errorf("%d is not a decimal, or its negative is not", n)
		}
	}
	for _, c := range []struct{ n, whole, frac int }{
		{0, 0, 0}, {2500000, 2000000, 500000}, {-2500000, -2000000, -500000}, {-999999, 0, -999999}, {999999, 0, 999999},
		{-1, 0, -1}, {3000000, 3000000, 0}, {1 - impl.MaxDec, impl.One - impl.MaxDec, 1 - impl.One},
		{impl.MaxDec, impl.MaxDec, 0},
	} {
		if impl.DecInt(c.n) != c.whole || impl.DecFrac(c.n) != c.frac {
			t.Errorf("%d has the parts %d and %d", c.n, impl.DecInt(c.n), impl.DecFrac(c.n))
		}
	}
}

func TestDecCmp(t *testing.T) {
	for _, a := range decimals() {
		for _, b := range decimals() {
			want := big.NewInt(int64(a)).Cmp(big.NewInt(int64(b)))
			if got := impl.DecCmp(a, b); got != want {
				t.Fatalf("DecCmp(%d, %d) = %d; want %d", a, b, got, want)
			}
		}
	}
}

func TestDecText(t *testing.T) {
	for _, c := range []struct {
		n    int
		text string
	}{
		{0, "0"}, {1, "0.000001"}, {-1, "-0.000001"}, {-2500000, "-2.5"}, {12000000, "12"}, {-12000000, "-12"},
		{100000, "0.1"}, {-500000, "-0.5"}, {123456, "0.123456"}, {1000010, "1.00001"}, {10200300, "10.2003"},
		{1000000, "1"}, {999999, "0.999999"}, {120, "0.00012"}, {impl.MaxDec, "9000000"}, {-impl.MaxDec, "-9000000"},
		{impl.MaxDec - 1, "8999999.999999"}, {1 - impl.MaxDec, "-8999999.999999"},
	} {
		if got := impl.DecText(c.n); got != c.text {
			t.Errorf("DecText(%d) = %q; want %q", c.n, got, c.text)
		}
	}
}

func TestPrintedDecimalIsReadBack(t *testing.T) {
	numbers := decimals()
	for n := range 30000 {
		numbers = append(numbers, n*37, -n*37)
	}
	for _, n := range numbers {
		text := impl.DecText(n)
		if got, taken := impl.ReadDec(text); got != n || taken != len(text) || !impl.LooksNum(text) {
			t.Fatalf("ReadDec(%q) = %d, %d; want %d, %d", text, got, taken, n, len(text))
		}
	}
}

func TestReadDec(t *testing.T) {
	const most = impl.MaxDec
	nines := strings.Repeat("9", 10000)
	zeros := strings.Repeat("0", 10000)
	for _, c := range []struct {
		s     string
		n     int
		taken int
		num   bool
	}{
		{"5", 5000000, 1, true}, {"0", 0, 1, true}, {"-0", 0, 2, true}, {"007", 7000000, 3, true}, {"10.25", 10250000, 5, true},
		// Whitespace before and after; no other byte is whitespace.
		{" -2.5x", -2500000, 5, false}, {" \t\n3", 3000000, 4, true}, {"3 \t\n ", 3000000, 1, true},
		{"\n\n 4 5", 4000000, 4, false}, {"\r5", 0, 0, false}, {"5\r", 5000000, 1, false}, {"\v5", 0, 0, false},
		{"\x005", 0, 0, false}, {"5\x00", 5000000, 1, false}, {"\u00a05", 0, 0, false}, {"5\xff", 5000000, 1, false},
		// Signs.
		{"+3 ", 3000000, 2, true}, {"-3", -3000000, 2, true}, {"+-3", 0, 0, false}, {"--3", 0, 0, false},
		{"- 3", 0, 0, false}, {"+", 0, 0, false}, {"-", 0, 0, false}, {" -", 0, 0, false}, {"3-", 3000000, 1, false},
		{"-0.000001", -1, 9, true}, {"3+4", 3000000, 1, false},
		// Points.
		{".5", 500000, 2, true}, {"-.5", -500000, 3, true}, {"+.5", 500000, 3, true}, {"7.", 7000000, 2, true}, {"-7. ", -7000000, 3, true},
		{"7.x", 7000000, 2, false}, {"7..5", 7000000, 2, false}, {"1.2.3", 1200000, 3, false}, {".", 0, 0, false},
		{"-.", 0, 0, false}, {" .", 0, 0, false}, {"..5", 0, 0, false}, {". 5", 0, 0, false}, {"7. 5", 7000000, 2, false},
		{".5.", 500000, 2, false}, {",5", 0, 0, false}, {"1,5", 1000000, 1, false}, {".-5", 0, 0, false},
		// Digits beyond the sixth are dropped, not rounded.
		{"1.23456789", 1234567, 10, true}, {"-1.9999999", -1999999, 10, true}, {"0.0000009", 0, 9, true},
		{"-0.0000009", 0, 10, true}, {"1.123456", 1123456, 8, true}, {"1.000001", 1000001, 8, true}, {"1.0000019z", 1000001, 9, false},
		// Values that are not decimals.
		{"9000000", most, 7, true}, {"8999999.999999", most - 1, 14, true}, {"8999999.9999999", most - 1, 15, true},
		{"9000000.000001", most, 14, true}, {"-9000000.000001", -most, 15, true}, {"9000000.0000001", most, 15, true},
		{"9000001", most, 7, true}, {"-9000001", -most, 8, true}, {"99999999", most, 8, true}, {"-99999999.5", -most, 11, true},
		{"9223372036854775808", most, 19, true}, {"18446744073709551617", most, 20, true}, {"-18446744073709551617", -most, 21, true},
		{nines, most, 10000, true}, {"-" + nines + "x", -most, 10001, false}, {zeros + "1", 1000000, 10001, true},
		{"0." + nines, 999999, 10002, true}, {"." + zeros + "1", 0, 10002, true},
		// No number.
		{"", 0, 0, false}, {"x", 0, 0, false}, {" ", 0, 0, false}, {"\n", 0, 0, false}, {"e5", 0, 0, false}, {"x5", 0, 0, false},
		{"/", 0, 0, false}, {":", 0, 0, false}, {"\xff\xfe", 0, 0, false}, {"inf", 0, 0, false}, {"٣", 0, 0, false},
		{"1e5", 1000000, 1, false}, {"0x10", 0, 1, false}, {"1_000", 1000000, 1, false}, {"1/2", 1000000, 1, false}, {"1:", 1000000, 1, false},
	} {
		n, taken := impl.ReadDec(c.s)
		if n != c.n || taken != c.taken || impl.LooksNum(c.s) != c.num {
			t.Errorf("ReadDec(%.40q) = %d, %d, LooksNum %v; want %d, %d, %v", c.s, n, taken, impl.LooksNum(c.s), c.n, c.taken, c.num)
		}
	}
}

// grammarEnd is the longest beginning of s that the grammar of ReadDec
// describes, found by trying all of them.
func grammarEnd(s string) int {
	for end := len(s); end > 0; end-- {
		body := strings.TrimLeft(s[:end], " \t\n")
		if body != "" && (body[0] == '+' || body[0] == '-') {
			body = body[1:]
		}
		whole, frac, _ := strings.Cut(body, ".")
		if strings.Trim(whole+frac, "0123456789") == "" && whole+frac != "" {
			return end
		}
	}
	return 0
}

func TestReadDecTakesAsMuchAsPossible(t *testing.T) {
	const alphabet = " -+.1\nx"
	level := []string{""}
	for range 6 {
		var next []string
		for _, s := range level {
			end := grammarEnd(s)
			_, taken := impl.ReadDec(s)
			num := end > 0 && strings.Trim(s[end:], " \t\n") == ""
			if taken != end || impl.LooksNum(s) != num {
				t.Fatalf("ReadDec(%q) takes %d, LooksNum %v; want %d, %v", s, taken, impl.LooksNum(s), end, num)
			}
			for _, b := range []byte(alphabet) {
				next = append(next, s+string(b))
			}
		}
		level = next
	}
}
