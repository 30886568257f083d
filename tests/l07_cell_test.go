package tests

import (
	"math"
	"math/big"
	"regexp"
	"strconv"
	"strings"
	"testing"

	"loop.example/g00700/impl"
)

var unset impl.Cell

func cellNum(n int) impl.Cell    { return impl.Cell{Tag: impl.CeNum, N: n} }
func cellStr(s string) impl.Cell { return impl.Cell{Tag: impl.CeStr, S: s} }

func cellBoth(n int, s string) impl.Cell { return impl.Cell{Tag: impl.CeBoth, N: n, S: s} }

const one = impl.One

// An input is a string, the number that it begins with, and whether it looks like
// a number.
type input struct {
	s     string
	n     int
	looks bool
}

func inputs() []input {
	const most = impl.MaxDec
	nines, zeros := strings.Repeat("9", 300), strings.Repeat("0", 300)
	return []input{
		{"", 0, false}, {" ", 0, false}, {"\t\n ", 0, false}, {"0", 0, true}, {"0.0", 0, true}, {"-0", 0, true}, {"+0", 0, true},
		{" 0 ", 0, true}, {".0", 0, true}, {"0.", 0, true}, {"000", 0, true}, {"0.0000009", 0, true}, {"-.0000001", 0, true},
		{"3", 3 * one, true}, {" 3 ", 3 * one, true}, {"\t3\n", 3 * one, true}, {"007", 7 * one, true}, {"10", 10 * one, true},
		{"9", 9 * one, true}, {"2.5", 2500000, true}, {"2.50", 2500000, true}, {"\n \t-2.5\t \n", -2500000, true},
		// Signs.
		{"+3", 3 * one, true}, {"-3", -3 * one, true}, {" -3", -3 * one, true}, {"- 3", 0, false}, {"+-3", 0, false}, {"--3", 0, false},
		{"3-", 3 * one, false}, {"-", 0, false}, {"+", 0, false}, {"3+4", 3 * one, false}, {"-x", 0, false}, {"-3-", -3 * one, false},
		// Points.
		{".5", 500000, true}, {"-.5", -500000, true}, {"5.", 5 * one, true}, {"5. ", 5 * one, true}, {".", 0, false}, {"-.", 0, false},
		{"5..", 5 * one, false}, {"2.5.", 2500000, false}, {"1.2.3", 1200000, false}, {". 5", 0, false}, {"5 .", 5 * one, false}, {"1,5", one, false},
		// Exponents and other writings of numbers.
		{"1e5", one, false}, {"1E5", one, false}, {"1e", one, false}, {"e1", 0, false}, {"1e+2", one, false}, {"0x10", 0, false}, {"1_0", one, false},
		{"inf", 0, false}, {"nan", 0, false}, {"1/2", one, false}, {"50%", 50 * one, false}, {"٣", 0, false}, {"³", 0, false},
		// Other bytes beside a number.
		{"3x", 3 * one, false}, {"x3", 0, false}, {"3 x", 3 * one, false}, {"3 4", 3 * one, false}, {"3\r", 3 * one, false}, {"\r3", 0, false},
		{"\v3", 0, false}, {"3\f", 3 * one, false}, {"3\x00", 3 * one, false}, {"\x003", 0, false}, {"\xff3", 0, false}, {"3\xff", 3 * one, false},
		{"\u00a03", 0, false}, {"3\u00a0", 3 * one, false}, {"\"3\"", 0, false}, {"3;", 3 * one, false}, {"/", 0, false}, {":", 0, false},
		// Long digits.
		{"1.23456789", 1234567, true}, {"-1.9999999", -1999999, true}, {"8999999.999999", most - 1, true}, {"9000000", most, true},
		{"-9000000", -most, true}, {"9000000.000001", most, true}, {"-9000000.000001", -most, true}, {"9000001", most, true},
		{"9223372036855", most, true}, {"9223372036854775808", most, true}, {"18446744073709551617x", most, false},
		{nines, most, true}, {"-" + nines, -most, true}, {nines + "x", most, false}, {zeros + "1", one, true}, {"0." + nines, 999999, true}, {"." + zeros + "1", 0, true},
		{"a", 0, false}, {"A", 0, false}, {"ab", 0, false}, {"\xff", 0, false}, {"\x00", 0, false}, {"é", 0, false},
	}
}

// goodCells returns valid cells of all tags.
func goodCells() []impl.Cell {
	all := []impl.Cell{unset}
	for _, n := range []int{0, 1, -1, one, -one, 3 * one, 7 * one, 9 * one, 10 * one, 2500000, -2500000, 999999, impl.MaxDec - 1, impl.MaxDec, 1 - impl.MaxDec, -impl.MaxDec} {
		all = append(all, cellNum(n))
	}
	for _, x := range inputs() {
		all = append(all, cellStr(x.s))
		if x.looks {
			all = append(all, cellBoth(x.n, x.s))
		}
	}
	full := strings.Repeat("x", impl.MaxStr)
	return append(all, cellStr(full), cellStr(full[1:]), cellStr(strings.Repeat("7", impl.MaxStr)), cellBoth(7*one, "7"+strings.Repeat(" ", impl.MaxStr-1)))
}

// badCells returns cells that are not valid, most of them for one reason only.
func badCells() []impl.Cell {
	over := strings.Repeat("7", impl.MaxStr+1)
	all := []impl.Cell{
		// A number beside CeNone or CeStr.
		{N: 1}, {N: -1}, {N: one}, {N: impl.MaxDec}, {N: math.MinInt}, {Tag: impl.CeStr, N: 1}, {Tag: impl.CeStr, N: -1, S: "x"},
		{Tag: impl.CeStr, N: 3 * one, S: "3"}, {Tag: impl.CeStr, N: math.MaxInt, S: "3"},
		// A string beside CeNone or CeNum.
		{S: " "}, {S: "0"}, {S: "x"}, {S: "\x00"}, {S: over}, {Tag: impl.CeNum, S: "0"}, {Tag: impl.CeNum, N: 3 * one, S: "3"},
		{Tag: impl.CeNum, N: 3 * one, S: " "}, {Tag: impl.CeNum, N: 7 * one, S: over},
		// Strings that are too long.
		cellStr(over), cellStr(strings.Repeat("x", impl.MaxStr+1)), cellStr(strings.Repeat("x", 1<<20)), cellBoth(impl.MaxDec, over),
		cellBoth(7*one, "7"+strings.Repeat(" ", impl.MaxStr)), cellBoth(7*one, strings.Repeat("0", impl.MaxStr)+"7"), cellBoth(0, strings.Repeat("0", 1<<20)),
		// A CeBoth whose string gives another number.
		cellBoth(0, "3"), cellBoth(-3*one, "3"), cellBoth(3*one+1, "3"), cellBoth(3*one-1, "3"), cellBoth(3, "3"), cellBoth(1, "0"), cellBoth(-1, "0.0"),
		cellBoth(9000001*one, "9000001"), cellBoth(-9000001*one, "-9000001"), cellBoth(impl.MaxDec+1, "9000000.000001"), cellBoth(1234568, "1.2345678"),
		cellBoth(math.MinInt, "0"), cellBoth(math.MaxInt, "9223372036854775807"),
	}
	for _, x := range inputs() {
		if !x.looks {
			all = append(all, cellBoth(x.n, x.s))
		}
	}
	for _, n := range notDecimals {
		all = append(all, cellNum(n))
	}
	for _, tag := range []int{-1, 4, 5, 7, -2, 256, math.MinInt, math.MaxInt} {
		all = append(all, impl.Cell{Tag: tag}, impl.Cell{Tag: tag, N: 3 * one}, impl.Cell{Tag: tag, S: "3"}, impl.Cell{Tag: tag, N: 3 * one, S: "3"})
	}
	return all
}

// What follows says in other words what chapter 7 says.

var number = regexp.MustCompile(`^[ \t\n]*([+-]?)([0-9]+\.?[0-9]*|\.[0-9]+)`)

// numberIn returns the number that s begins with, and whether s looks like one.
func numberIn(s string) (int, bool) {
	found := number.FindStringSubmatch(s)
	if found == nil {
		return 0, false
	}
	whole, frac, _ := strings.Cut(found[2], ".")
	digits := strings.TrimLeft(whole+(frac + "000000")[:6], "0")
	n, most := 0, strconv.Itoa(impl.MaxDec)
	if len(digits) > len(most) || len(digits) == len(most) && digits > most {
		digits = most
	}
	if digits != "" {
		n, _ = strconv.Atoi(digits)
	}
	if found[1] == "-" {
		n = -n
	}
	return n, strings.Trim(s[len(found[0]):], " \t\n") == ""
}

func wantCellOk(c impl.Cell) bool {
	if len(c.S) > impl.MaxStr {
		return false
	}
	switch c.Tag {
	case impl.CeNone:
		return c.N == 0 && c.S == ""
	case impl.CeNum:
		return c.N >= -impl.MaxDec && c.N <= impl.MaxDec && c.S == ""
	case impl.CeStr:
		return c.N == 0
	case impl.CeBoth:
		n, looks := numberIn(c.S)
		return looks && c.N == n
	}
	return false
}

// wantNum and wantStr take a valid cell.

func wantNum(c impl.Cell) int {
	if c.Tag == impl.CeNum {
		return c.N
	}
	n, _ := numberIn(c.S)
	return n
}

func wantStr(c impl.Cell) string {
	if c.Tag == impl.CeNum {
		return impl.DecText(c.N)
	}
	return c.S
}

func wantTruth(c impl.Cell) bool {
	if c.Tag == impl.CeStr {
		return len(c.S) > 0
	}
	return wantNum(c) != 0
}

func wantCompare(a, b impl.Cell) int {
	if a.Tag == impl.CeStr || b.Tag == impl.CeStr {
		return strings.Compare(wantStr(a), wantStr(b))
	}
	return big.NewInt(int64(wantNum(a))).Cmp(big.NewInt(int64(wantNum(b))))
}

func wantArith(kind int, a, b impl.Cell) (impl.Cell, int) {
	x, y, r := big.NewInt(int64(wantNum(a))), big.NewInt(int64(wantNum(b))), new(big.Int)
	if (kind == impl.NkDivide || kind == impl.NkRest) && y.Sign() == 0 {
		return unset, impl.AcDivide
	}
	switch kind {
	case impl.NkPlus:
		r.Add(x, y)
	case impl.NkMinus:
		r.Sub(x, y)
	case impl.NkTimes:
		r.Quo(r.Mul(x, y), big.NewInt(one))
	case impl.NkDivide:
		r.Quo(r.Mul(x, big.NewInt(one)), y)
	case impl.NkRest:
		r.Rem(x, y)
	default:
		return unset, impl.AcForm
	}
	if r.CmpAbs(big.NewInt(impl.MaxDec)) > 0 {
		return unset, impl.AcOver
	}
	return cellNum(int(r.Int64())), impl.AcOk
}

func wantRelate(kind, order int) bool {
	return kind == impl.NkLess && order < 0 || kind == impl.NkLessEq && order < 1 || kind == impl.NkSame && order == 0 || kind == impl.NkUnlike && order != 0
}

// everyKind returns the kinds of nodes and others.
func everyKind() []int {
	kinds := []int{math.MinInt, math.MaxInt, -1000, 1000}
	for kind := -3; kind <= impl.NkBlock+3; kind++ {
		kinds = append(kinds, kind)
	}
	return kinds
}

// show is a cell for messages, without the whole of a long string.
func show(c impl.Cell) string {
	if len(c.S) > 60 {
		c.S = c.S[:60] + ".."
	}
	return "{" + strconv.Itoa(c.Tag) + " " + strconv.Itoa(c.N) + " " + strconv.Quote(c.S) + "}"
}

func checkCell(t *testing.T, c impl.Cell) {
	t.Helper()
	ok := wantCellOk(c)
	if impl.CellOk(c) != ok {
		t.Errorf("CellOk(%s) is not %v", show(c), ok)
	}
	n, s, truth := 0, "", false
	if ok {
		n, s, truth = wantNum(c), wantStr(c), wantTruth(c)
	}
	if impl.ToNum(c) != n || impl.ToStr(c) != s || impl.Truth(c) != truth {
		t.Errorf("%s is taken for %d, %.60q, %v; want %d, %.60q, %v", show(c), impl.ToNum(c), impl.ToStr(c), impl.Truth(c), n, s, truth)
	}
}

func checkCompare(t *testing.T, a, b impl.Cell, want int) {
	t.Helper()
	if got := impl.Compare(a, b); got != want {
		t.Errorf("Compare(%s, %s) = %d; want %d", show(a), show(b), got, want)
	}
	if got := impl.Compare(b, a); got != -want {
		t.Errorf("Compare(%s, %s) = %d; want %d", show(b), show(a), got, -want)
	}
}

func checkArith(t *testing.T, kind int, a, b, want impl.Cell, code int) {
	t.Helper()
	if got, c := impl.Arith(kind, a, b); got != want || c != code {
		t.Errorf("Arith(%d, %s, %s) = %s, %d; want %s, %d", kind, show(a), show(b), show(got), c, show(want), code)
	}
}

// checkPair compares all that is done with two cells with what it should be.
func checkPair(t *testing.T, a, b impl.Cell, kinds []int) {
	t.Helper()
	ok, order := wantCellOk(a) && wantCellOk(b), 0
	if ok {
		order = wantCompare(a, b)
	}
	checkCompare(t, a, b, order)
	for _, kind := range kinds {
		if got, want := impl.Relate(kind, a, b), ok && wantRelate(kind, order); got != want {
			t.Errorf("Relate(%d, %s, %s) = %v; want %v", kind, show(a), show(b), got, want)
		}
		want, code := unset, impl.AcForm
		if ok {
			want, code = wantArith(kind, a, b)
		}
		checkArith(t, kind, a, b, want, code)
	}
}

func TestCellConstants(t *testing.T) {
	if impl.CeNone != 0 || impl.CeNum != 1 || impl.CeStr != 2 || impl.CeBoth != 3 || impl.MaxStr != 500 {
		t.Error("a tag or MaxStr has another value")
	}
	if impl.AcOk != 0 || impl.AcOver != 1 || impl.AcDivide != 2 || impl.AcForm != 3 {
		t.Error("a code of Arith has another value")
	}
}

func TestFieldCell(t *testing.T) {
	for _, x := range inputs() {
		want := cellStr(x.s)
		if x.looks {
			want = cellBoth(x.n, x.s)
		}
		if got := impl.FieldCell(x.s); got != want || !impl.CellOk(got) {
			t.Errorf("FieldCell(%.60q) = %s; want %s", x.s, show(got), show(want))
		}
	}
}

func TestFieldCellOfAllShortStrings(t *testing.T) {
	for _, s := range allStrings(" -+.1e\n", 6) {
		n, looks := numberIn(s)
		c := impl.FieldCell(s)
		if looks != impl.LooksNum(s) || looks && c != cellBoth(n, s) || !looks && c != cellStr(s) {
			t.Fatalf("FieldCell(%q) = %s; want a number: %v", s, show(c), looks)
		}
		checkCell(t, c)
		checkCell(t, cellStr(s))
		checkCell(t, cellBoth(n, s))
	}
}

func TestCellsOfEachLength(t *testing.T) {
	for _, n := range []int{0, 1, 499, 500, 501, 502, 1000, 1 << 20} {
		for _, unit := range []string{"x", "7", " ", "0", "\xff", "\n"} {
			s := strings.Repeat(unit, n)
			for _, s := range []string{s, s + "7", "7" + s, "-" + s, s + "x"} {
				want := unset
				value, looks := numberIn(s)
				if len(s) <= impl.MaxStr && looks {
					want = cellBoth(value, s)
				} else if len(s) <= impl.MaxStr {
					want = cellStr(s)
				}
				if got := impl.FieldCell(s); got != want {
					t.Errorf("FieldCell of %d bytes = %s; want %s", len(s), show(got), show(want))
				}
				for _, c := range []impl.Cell{cellStr(s), cellBoth(value, s), {S: s}, {Tag: impl.CeNum, S: s}, {Tag: impl.CeNum, N: value, S: s}} {
					checkCell(t, c)
				}
			}
		}
	}
}

func TestCellOk(t *testing.T) {
	for _, c := range goodCells() {
		if !impl.CellOk(c) {
			t.Errorf("%s is not valid", show(c))
		}
	}
	for _, c := range badCells() {
		if impl.CellOk(c) {
			t.Errorf("%s is valid", show(c))
		}
	}
}

// Each field of each valid cell gets other values, and nothing else changes.
func TestCellOkOfChangedCells(t *testing.T) {
	var tags, numbers []int
	for n := -2; n <= 6; n++ {
		tags = append(tags, n)
		numbers = append(numbers, n)
	}
	tags = append(tags, math.MinInt, math.MaxInt)
	numbers = append(append(numbers, notDecimals...), one, -one, 3*one, impl.MaxDec, -impl.MaxDec, impl.MaxDec-1, 1-impl.MaxDec)
	for _, c := range goodCells() {
		for _, tag := range tags {
			checkCell(t, impl.Cell{Tag: tag, N: c.N, S: c.S})
		}
		for _, n := range numbers {
			checkCell(t, impl.Cell{Tag: c.Tag, N: n, S: c.S})
		}
		checkCell(t, impl.Cell{Tag: c.Tag, N: c.N + 1, S: c.S})
		checkCell(t, impl.Cell{Tag: c.Tag, N: c.N - 1, S: c.S})
		checkCell(t, impl.Cell{Tag: c.Tag, N: -c.N, S: c.S})
		for _, s := range []string{"", " ", "0", "3", "x", c.S + " ", c.S + "x", " " + c.S, c.S + "0"} {
			checkCell(t, impl.Cell{Tag: c.Tag, N: c.N, S: s})
		}
	}
}

func TestConversions(t *testing.T) {
	for _, x := range []struct {
		c     impl.Cell
		n     int
		s     string
		truth bool
	}{
		{unset, 0, "", false},
		{cellNum(0), 0, "0", false}, {cellNum(1), 1, "0.000001", true}, {cellNum(-1), -1, "-0.000001", true}, {cellNum(3 * one), 3 * one, "3", true},
		{cellNum(-2500000), -2500000, "-2.5", true}, {cellNum(impl.MaxDec), impl.MaxDec, "9000000", true}, {cellNum(-impl.MaxDec), -impl.MaxDec, "-9000000", true},
		// A string is true unless it is empty, whatever its number is.
		{cellStr(""), 0, "", false}, {cellStr(" "), 0, " ", true}, {cellStr("0"), 0, "0", true}, {cellStr("0.0"), 0, "0.0", true}, {cellStr("3"), 3 * one, "3", true},
		{cellStr(" -3x"), -3 * one, " -3x", true}, {cellStr("x"), 0, "x", true}, {cellStr("\x00"), 0, "\x00", true}, {cellStr("99999999"), impl.MaxDec, "99999999", true},
		// A string that looks like a number is true unless that is 0, and keeps its bytes.
		{cellBoth(0, "0"), 0, "0", false}, {cellBoth(0, "0.0"), 0, "0.0", false}, {cellBoth(0, " -0 "), 0, " -0 ", false}, {cellBoth(0, "0.0000009"), 0, "0.0000009", false},
		{cellBoth(3*one, " 3 "), 3 * one, " 3 ", true}, {cellBoth(-500000, "-.50"), -500000, "-.50", true}, {cellBoth(1, ".000001"), 1, ".000001", true},
		{impl.FieldCell("0"), 0, "0", false}, {impl.FieldCell("0.0"), 0, "0.0", false}, {impl.FieldCell(" "), 0, " ", true}, {impl.FieldCell(""), 0, "", false},
		{impl.FieldCell("0x"), 0, "0x", true}, {impl.FieldCell("9000001"), impl.MaxDec, "9000001", true}, {impl.FieldCell("3x"), 3 * one, "3x", true},
	} {
		if !impl.CellOk(x.c) || impl.ToNum(x.c) != x.n || impl.ToStr(x.c) != x.s || impl.Truth(x.c) != x.truth {
			t.Errorf("%s is taken for %d, %q, %v; want %d, %q, %v", show(x.c), impl.ToNum(x.c), impl.ToStr(x.c), impl.Truth(x.c), x.n, x.s, x.truth)
		}
	}
	for _, c := range goodCells() {
		checkCell(t, c)
	}
	for _, c := range badCells() {
		if impl.ToNum(c) != 0 || impl.ToStr(c) != "" || impl.Truth(c) {
			t.Errorf("%s is taken for %d, %.60q, %v", show(c), impl.ToNum(c), impl.ToStr(c), impl.Truth(c))
		}
	}
}

func TestCompare(t *testing.T) {
	ten, nine := cellNum(10*one), cellNum(9*one)
	for _, x := range []struct {
		a, b impl.Cell
		want int
	}{
		// Unset is 0 beside a number and the empty string beside a string.
		{unset, unset, 0}, {unset, cellNum(0), 0}, {unset, cellNum(1), -1}, {unset, cellNum(-1), 1}, {unset, cellBoth(0, "0"), 0}, {unset, cellBoth(0, " -0.0 "), 0},
		{unset, cellBoth(-one, "-1"), 1}, {unset, cellBoth(one, "1"), -1}, {unset, cellStr(""), 0}, {unset, cellStr("0"), -1}, {unset, cellStr("-1"), -1}, {unset, cellStr("\x00"), -1},
		// Numbers.
		{ten, nine, 1}, {ten, ten, 0}, {cellNum(-10 * one), cellNum(-9 * one), -1}, {cellNum(-1), cellNum(1), -1}, {cellNum(impl.MaxDec), cellNum(-impl.MaxDec), 1}, {cellNum(2500000), cellNum(2500001), -1},
		// A number beside a string is its text.
		{ten, cellStr("9"), -1}, {ten, cellStr("10"), 0}, {ten, cellStr("10.0"), -1}, {ten, cellStr(" 10"), 1}, {ten, cellStr("1"), 1}, {ten, cellStr(""), 1},
		{cellNum(2500000), cellStr("2.5"), 0}, {cellNum(-one), cellStr("-2"), -1}, {cellNum(0), cellStr(""), 1}, {cellNum(0), cellStr("0"), 0}, {ten, cellStr("x"), -1},
		// A string that looks like a number is one beside a number, and beside its like.
		{ten, cellBoth(9*one, "9"), 1}, {ten, cellBoth(10*one, "10.0"), 0}, {ten, cellBoth(10*one, " 10 "), 0}, {nine, cellBoth(10*one, "10"), -1},
		{cellBoth(10*one, "10"), cellBoth(9*one, "9"), 1}, {cellBoth(10*one, "10"), cellBoth(10*one, "+10."), 0}, {cellBoth(-10*one, "-10"), cellBoth(-9*one, "-9"), -1},
		{cellBoth(3*one, " 3"), cellBoth(3*one, "3"), 0}, {cellBoth(impl.MaxDec, "9000001"), cellBoth(impl.MaxDec, "9000002"), 0}, {cellBoth(0, "-0"), cellBoth(0, "0"), 0},
		// Beside a string it is one, too.
		{cellBoth(10*one, "10"), cellStr("9"), -1}, {cellBoth(10*one, "10"), cellStr("10"), 0}, {cellBoth(3*one, " 3"), cellStr("3"), -1}, {cellBoth(3*one, "3.0"), cellStr("3"), 1},
		{cellBoth(0, "0"), cellStr(""), 1}, {cellBoth(9*one, "9"), cellStr("10"), 1},
		// Strings, bytewise.
		{cellStr("10"), cellStr("9"), -1}, {cellStr("10"), cellStr("10.0"), -1}, {cellStr("10"), cellStr("10"), 0}, {cellStr(""), cellStr(""), 0}, {cellStr(""), cellStr("a"), -1},
		{cellStr("a"), cellStr("ab"), -1}, {cellStr("ab"), cellStr("b"), -1}, {cellStr("B"), cellStr("a"), -1}, {cellStr("\xff"), cellStr("a"), 1}, {cellStr("\xc3"), cellStr("é"), -1},
		{cellStr("a\x00"), cellStr("a"), 1}, {cellStr("x"), cellStr("\x00y"), 1},
		// From the input.
		{impl.FieldCell("10"), impl.FieldCell("9"), 1}, {impl.FieldCell("10x"), impl.FieldCell("9"), -1}, {impl.FieldCell("1e1"), impl.FieldCell("10"), 1},
		{impl.FieldCell("1e1"), ten, 1}, {impl.FieldCell("010"), ten, 0}, {impl.FieldCell(""), unset, 0}, {impl.FieldCell(" "), unset, 1}, {impl.FieldCell(""), cellNum(0), -1},
	} {
		checkCompare(t, x.a, x.b, x.want)
	}
}

func TestRelate(t *testing.T) {
	less, more := cellNum(one), cellNum(2*one)
	for _, x := range []struct {
		kind               int
		below, same, above bool
	}{
		{impl.NkLess, true, false, false}, {impl.NkLessEq, true, true, false}, {impl.NkSame, false, true, false}, {impl.NkUnlike, true, false, true},
		// Other kinds.
		{impl.NkLess - 1, false, false, false}, {impl.NkUnlike + 1, false, false, false}, {impl.NkCat, false, false, false}, {impl.NkMatch, false, false, false}, {0, false, false, false}, {-1, false, false, false},
		{impl.NkPlus, false, false, false}, {math.MinInt, false, false, false}, {math.MaxInt, false, false, false}, {-impl.NkLess, false, false, false}, {impl.NkSame + 256, false, false, false},
	} {
		if a, b, c := impl.Relate(x.kind, less, more), impl.Relate(x.kind, more, more), impl.Relate(x.kind, more, less); a != x.below || b != x.same || c != x.above {
			t.Errorf("Relate by %d = %v, %v, %v; want %v, %v, %v", x.kind, a, b, c, x.below, x.same, x.above)
		}
	}
	// Mind which comparison applies.
	for _, x := range []struct {
		a, b       impl.Cell
		less, same bool
	}{
		{impl.FieldCell("10"), impl.FieldCell("9"), false, false}, {impl.FieldCell("10"), cellStr("9"), true, false}, {impl.FieldCell("1.0"), impl.FieldCell("1"), false, true},
		{impl.FieldCell("1.0"), cellNum(one), false, true}, {impl.FieldCell("1.0"), cellStr("1"), false, false}, {unset, cellNum(0), false, true}, {unset, cellStr("0"), true, false},
		{unset, cellStr(""), false, true}, {cellNum(10 * one), cellStr("9"), true, false},
	} {
		if impl.Relate(impl.NkLess, x.a, x.b) != x.less || impl.Relate(impl.NkSame, x.a, x.b) != x.same || impl.Relate(impl.NkUnlike, x.a, x.b) == x.same || impl.Relate(impl.NkLessEq, x.a, x.b) != (x.less || x.same) {
			t.Errorf("%s and %s are not related as they should be", show(x.a), show(x.b))
		}
	}
}

func TestArith(t *testing.T) {
	const most = impl.MaxDec
	two, half, full, least := cellNum(2*one), cellNum(500000), cellNum(most), cellNum(-most)
	for _, x := range []struct {
		kind int
		a, b impl.Cell
		want int
	}{
		{impl.NkPlus, two, half, 2500000}, {impl.NkMinus, two, half, 1500000}, {impl.NkMinus, half, two, -1500000}, {impl.NkTimes, two, half, one},
		{impl.NkDivide, two, half, 4 * one}, {impl.NkDivide, half, two, 250000}, {impl.NkRest, two, cellNum(1500000), 500000}, {impl.NkRest, cellNum(-7500000), two, -1500000},
		{impl.NkTimes, cellNum(-1500000), cellNum(2000001), -3000001}, {impl.NkDivide, cellNum(-2 * one), cellNum(3 * one), -666666},
		// Other tags count as their numbers.
		{impl.NkPlus, cellStr("3x"), impl.FieldCell(" 4 "), 7 * one}, {impl.NkMinus, unset, cellStr("3"), -3 * one}, {impl.NkTimes, impl.FieldCell("1.5"), cellStr("-2e9"), -3 * one},
		{impl.NkDivide, cellStr("x"), two, 0}, {impl.NkDivide, unset, two, 0}, {impl.NkRest, cellStr("7 8"), impl.FieldCell("4"), 3 * one}, {impl.NkPlus, unset, unset, 0},
		{impl.NkPlus, cellStr("99999999"), unset, most}, {impl.NkPlus, cellStr(""), cellStr(" "), 0},
		// 0 as the second operand where nothing is divided, and as the first one.
		{impl.NkPlus, two, unset, 2 * one}, {impl.NkMinus, two, cellNum(0), 2 * one}, {impl.NkTimes, two, cellStr("x"), 0}, {impl.NkDivide, cellNum(0), two, 0}, {impl.NkRest, unset, two, 0},
		// The ends of the decimals.
		{impl.NkPlus, cellNum(most - 1), cellNum(1), most}, {impl.NkMinus, cellNum(1 - most), cellNum(1), -most}, {impl.NkPlus, full, least, 0}, {impl.NkMinus, full, full, 0},
		{impl.NkTimes, full, cellNum(one), most}, {impl.NkTimes, least, cellNum(-one), most}, {impl.NkTimes, full, cellNum(1), 9000000}, {impl.NkDivide, full, cellNum(-one), -most},
		{impl.NkDivide, full, full, one}, {impl.NkRest, full, cellNum(7), most % 7}, {impl.NkRest, least, cellNum(1), 0}, {impl.NkDivide, cellNum(1), full, 0}, {impl.NkDivide, cellNum(9 * one), cellNum(1), most},
	} {
		checkArith(t, x.kind, x.a, x.b, cellNum(x.want), impl.AcOk)
	}
}

func TestArithErrors(t *testing.T) {
	const most = impl.MaxDec
	two, full, least, bad := cellNum(2*one), cellNum(impl.MaxDec), cellNum(-impl.MaxDec), cellNum(most+1)
	for _, x := range []struct {
		kind int
		a, b impl.Cell
		code int
	}{
		{impl.NkPlus, full, cellNum(1), impl.AcOver}, {impl.NkPlus, least, cellNum(-1), impl.AcOver}, {impl.NkPlus, full, full, impl.AcOver}, {impl.NkMinus, least, cellNum(1), impl.AcOver},
		{impl.NkMinus, full, least, impl.AcOver}, {impl.NkTimes, full, cellNum(one + 1), impl.AcOver}, {impl.NkTimes, full, least, impl.AcOver}, {impl.NkTimes, cellNum(3000000000), cellNum(3000000001), impl.AcOver},
		{impl.NkDivide, full, cellNum(one - 1), impl.AcOver}, {impl.NkDivide, cellNum(9*one + 1), cellNum(1), impl.AcOver}, {impl.NkDivide, least, cellStr(".000001"), impl.AcOver},
		{impl.NkPlus, cellStr("9999999"), impl.FieldCell("1"), impl.AcOver},
		// A 0 of each tag divides nothing, neither a 0 nor MaxDec.
		{impl.NkDivide, two, unset, impl.AcDivide}, {impl.NkDivide, two, cellNum(0), impl.AcDivide}, {impl.NkDivide, two, cellStr(""), impl.AcDivide}, {impl.NkDivide, two, cellStr("x"), impl.AcDivide},
		{impl.NkDivide, two, cellStr("0"), impl.AcDivide}, {impl.NkDivide, two, impl.FieldCell("0.0"), impl.AcDivide}, {impl.NkDivide, two, impl.FieldCell("0.0000009"), impl.AcDivide}, {impl.NkDivide, unset, unset, impl.AcDivide},
		{impl.NkDivide, full, unset, impl.AcDivide}, {impl.NkRest, two, unset, impl.AcDivide}, {impl.NkRest, two, cellNum(0), impl.AcDivide}, {impl.NkRest, two, cellStr(""), impl.AcDivide}, {impl.NkRest, two, cellStr("x3"), impl.AcDivide},
		{impl.NkRest, two, impl.FieldCell(" -0 "), impl.AcDivide}, {impl.NkRest, unset, unset, impl.AcDivide}, {impl.NkRest, least, cellNum(0), impl.AcDivide},
		// AcForm comes first.
		{impl.NkDivide, bad, unset, impl.AcForm}, {impl.NkDivide, two, bad, impl.AcForm}, {impl.NkRest, bad, cellNum(0), impl.AcForm}, {impl.NkDivide, two, impl.Cell{S: "x"}, impl.AcForm},
		{impl.NkRest, two, impl.Cell{Tag: 4}, impl.AcForm}, {impl.NkPlus, bad, full, impl.AcForm}, {impl.NkPlus, full, bad, impl.AcForm}, {impl.NkTimes, bad, bad, impl.AcForm}, {impl.NkMinus, impl.Cell{N: 1}, two, impl.AcForm},
		{impl.NkCat, two, two, impl.AcForm}, {impl.NkNeg, two, two, impl.AcForm}, {impl.NkNeg, two, unset, impl.AcForm}, {0, full, full, impl.AcForm}, {-1, two, two, impl.AcForm}, {math.MinInt, two, two, impl.AcForm}, {math.MaxInt, two, unset, impl.AcForm},
		{impl.NkPlus + 256, two, two, impl.AcForm}, {-impl.NkPlus, two, two, impl.AcForm}, {impl.NkLess, full, cellNum(0), impl.AcForm}, {impl.NkBlock, bad, unset, impl.AcForm},
	} {
		checkArith(t, x.kind, x.a, x.b, unset, x.code)
	}
}

// All cells beside all cells, by the kinds for which something is defined, the ones
// beside them, and others.
func TestEachPairOfCells(t *testing.T) {
	kinds := []int{impl.NkLess - 1, impl.NkLess, impl.NkLessEq, impl.NkSame, impl.NkUnlike, impl.NkCat, impl.NkPlus, impl.NkMinus, impl.NkTimes, impl.NkDivide, impl.NkRest, impl.NkNeg}
	good := goodCells()
	for _, a := range good {
		for _, b := range good {
			checkPair(t, a, b, kinds)
		}
	}
	few := []impl.Cell{unset, cellNum(0), cellNum(3 * one), cellStr(""), cellStr("3"), cellBoth(3*one, "3"), cellBoth(0, "0")}
	for _, a := range few {
		for _, b := range few {
			checkPair(t, a, b, everyKind())
		}
	}
	few = append(few, badCells()[:30]...)
	for _, a := range badCells() {
		for _, b := range few {
			checkPair(t, a, b, kinds)
			checkPair(t, b, a, kinds)
		}
		checkPair(t, a, a, everyKind())
	}
}

// drawCell returns a cell that is often valid, and made of parts that are often
// right.
func drawCell(dice *treeMaker) impl.Cell {
	all := inputs()
	s := all[dice.below(len(all))].s
	if dice.below(2) == 0 {
		s = ""
		for range dice.below(7) {
			s += string(" 0123-+.ex\n5"[dice.below(12)])
		}
	}
	list := decimals()
	n := list[dice.below(len(list))]
	switch dice.below(6) {
	case 0:
		return unset
	case 1:
		return cellNum(n)
	case 2:
		return cellStr(s)
	case 3:
		n, _ := numberIn(s)
		return cellBoth(n, s)
	case 4:
		return impl.FieldCell(s)
	}
	return impl.Cell{Tag: dice.below(6) - 1, N: n, S: s}
}

func TestDrawnCells(t *testing.T) {
	dice := treeMaker(7)
	kinds := everyKind()
	for range 6000 {
		a, b := drawCell(&dice), drawCell(&dice)
		checkCell(t, a)
		checkPair(t, a, b, kinds)
	}
}

// Promise 7, by the results of the functions alone.
func TestValuesKeepThePromise(t *testing.T) {
	dice := treeMaker(77)
	arith := map[int]decOp{impl.NkPlus: impl.DecAdd, impl.NkMinus: impl.DecSub, impl.NkTimes: impl.DecMul, impl.NkDivide: impl.DecDiv, impl.NkRest: impl.DecMod}
	for range 20000 {
		a, b := drawCell(&dice), drawCell(&dice)
		if impl.Compare(a, b) != -impl.Compare(b, a) || impl.Compare(a, a) != 0 {
			t.Errorf("the comparison of %s and %s is not antisymmetric", show(a), show(b))
		}
		if c := impl.FieldCell(a.S); (c.Tag == impl.CeBoth) != impl.LooksNum(a.S) || impl.ToStr(c) != a.S {
			t.Errorf("FieldCell(%.60q) = %s", a.S, show(c))
		}
		if !impl.CellOk(a) || !impl.CellOk(b) {
			continue
		}
		x, y := impl.ToNum(a), impl.ToNum(b)
		for kind, op := range arith {
			got, code := impl.Arith(kind, a, b)
			same, sameCode := impl.Arith(kind, cellNum(x), cellNum(y))
			n, ok := op(x, y)
			if got != same || code != sameCode || ok != (code == impl.AcOk) || impl.ToNum(got) != n || ok && got != cellNum(n) {
				t.Errorf("Arith(%d, %s, %s) = %s, %d; want %d", kind, show(a), show(b), show(got), code, n)
			}
		}
		if a.Tag != impl.CeStr && b.Tag != impl.CeStr && impl.Compare(a, b) != impl.DecCmp(x, y) {
			t.Errorf("%s and %s are not compared as numbers", show(a), show(b))
		}
		if a.Tag == impl.CeStr && impl.Compare(a, b) != strings.Compare(impl.ToStr(a), impl.ToStr(b)) {
			t.Errorf("%s and %s are not compared as strings", show(a), show(b))
		}
	}
}

// wantSubText asks for each position whether its byte is taken.
func wantSubText(s string, from, n int) string {
	end := new(big.Int).Add(big.NewInt(int64(from)), big.NewInt(int64(n)))
	var taken []byte
	for i := range len(s) {
		if position := i + 1; position >= from && (n == impl.MaxDec || big.NewInt(int64(position)).Cmp(end) < 0) {
			taken = append(taken, s[i])
		}
	}
	return string(taken)
}

func checkSubText(t *testing.T, s string, from, n int, want string) {
	t.Helper()
	if got := impl.SubText(s, from, n); got != want {
		t.Errorf("SubText(%.60q, %d, %d) = %.60q; want %.60q", s, from, n, got, want)
	}
}

func TestSubText(t *testing.T) {
	const most, maxInt, minInt = impl.MaxDec, math.MaxInt, math.MinInt
	for _, x := range []struct {
		from, n int
		want    string
	}{
		{1, 4, "abcd"}, {1, 1, "a"}, {2, 2, "bc"}, {4, 1, "d"}, {1, 3, "abc"}, {2, 3, "bcd"}, {3, 9, "cd"}, {1, 5, "abcd"}, {4, 2, "d"},
		// Beyond the end.
		{5, 1, ""}, {5, 0, ""}, {6, 9, ""}, {9, 1, ""}, {most, 1, ""}, {maxInt, 1, ""}, {maxInt, maxInt, ""}, {5, maxInt, ""}, {5, most, ""},
		// Positions before the first one are none, but they count.
		{0, 2, "a"}, {0, 1, ""}, {0, 5, "abcd"}, {0, 4, "abc"}, {-1, 2, ""}, {-1, 3, "a"}, {-1, 6, "abcd"}, {-1, 9, "abcd"}, {-5, 4, ""}, {-most, 4, ""}, {-most + 1, most - 1, ""},
		// Nothing.
		{1, 0, ""}, {2, 0, ""}, {0, 0, ""}, {-1, 0, ""}, {2, -1, ""}, {4, -3, ""}, {9, -8, ""}, {0, -1, ""}, {-1, -1, ""}, {1, -most, ""}, {most, -most, ""}, {2, minInt, ""},
		// MaxDec takes all from the position on.
		{1, most, "abcd"}, {3, most, "cd"}, {4, most, "d"}, {0, most, "abcd"}, {-1, most, "abcd"}, {-most, most, "abcd"}, {-most - 5, most, "abcd"}, {minInt, most, "abcd"}, {most, most, ""},
		{2, most - 1, "bcd"}, {2, most + 1, "bcd"}, {-most, most + 1, ""}, {-most, most + 2, "a"}, {2 - most, most - 1, ""}, {3 - most, most - 1, "a"}, {-most - 1, most + 4, "ab"}, {2, -most, ""},
		// The ends of int: the sum is the mathematical one.
		{1, maxInt, "abcd"}, {2, maxInt, "bcd"}, {4, maxInt, "d"}, {2, maxInt - 1, "bcd"}, {0, maxInt, "abcd"}, {-1, maxInt, "abcd"}, {minInt, maxInt, ""}, {-maxInt, maxInt, ""}, {1 - maxInt, maxInt, ""},
		{2 - maxInt, maxInt, "a"}, {4 - maxInt, maxInt, "abc"}, {6 - maxInt, maxInt, "abcd"}, {5 - maxInt, maxInt - 1, "abc"}, {minInt, minInt, ""}, {-1, minInt, ""}, {minInt, -1, ""}, {minInt, -5, ""}, {minInt, 0, ""},
		{minInt, 1, ""}, {maxInt, minInt, ""}, {maxInt, -maxInt, ""}, {maxInt, 3 - maxInt, ""}, {minInt + 4, -5, ""},
	} {
		checkSubText(t, "abcd", x.from, x.n, x.want)
		checkSubText(t, "", x.from, x.n, "")
	}
	checkSubText(t, "é\x00\xff", 2, 2, "\xa9\x00")
	checkSubText(t, "é\x00\xff", 4, 1, "\xff")
}

func TestSubTextAtEachPlace(t *testing.T) {
	const most, maxInt, minInt = impl.MaxDec, math.MaxInt, math.MinInt
	var numbers []int
	for near := -8; near <= 8; near++ {
		numbers = append(numbers, near, most+near, -most+near)
		if near >= 0 {
			numbers = append(numbers, minInt+near, maxInt-near)
		}
	}
	for _, s := range []string{"", "a", "ab", "abcd", "a\x00\xffé", strings.Repeat("x", 6)} {
		for _, from := range numbers {
			for _, n := range numbers {
				checkSubText(t, s, from, n, wantSubText(s, from, n))
			}
		}
	}
}

func checkIndexOf(t *testing.T, s, of string, want int) {
	t.Helper()
	if got := impl.IndexOf(s, of); got != want {
		t.Errorf("IndexOf(%.60q, %.60q) = %d; want %d", s, of, got, want)
	}
}

func TestIndexOf(t *testing.T) {
	for _, x := range []struct {
		s, of string
		want  int
	}{
		{"abcd", "a", 1}, {"abcd", "d", 4}, {"abcd", "bc", 2}, {"abcd", "cd", 3}, {"abcd", "abcd", 1}, {"abcd", "x", 0}, {"abcd", "ac", 0}, {"abcd", "de", 0}, {"abcd", "B", 0},
		// Empty and longer strings.
		{"", "", 0}, {"a", "", 0}, {"abcd", "", 0}, {"", "a", 0}, {"", "abc", 0}, {"a", "ab", 0}, {"ab", "aba", 0}, {"ab", "xab", 0},
		// Several occurrences, and a string that overlaps itself.
		{"abcb", "b", 2}, {"abab", "ab", 1}, {"xabab", "ab", 2}, {"aaaa", "aa", 1}, {"baaa", "aa", 2}, {"aabaabaaa", "aabaaa", 4}, {"abababac", "ababac", 3}, {"aaab", "aab", 2}, {"mississippi", "issip", 5},
		// Any bytes.
		{"a\x00b", "\x00", 2}, {"a\x00b", "b", 3}, {"é", "\xa9", 2}, {"é", "é", 1}, {"\xff\xfe", "\xfe", 2}, {"aé", "\xc3", 2}, {"\xff", "\ufffd", 0}, {"a.c", ".", 2}, {"a*", "*", 2}, {" ", " ", 1},
	} {
		checkIndexOf(t, x.s, x.of, x.want)
	}
}

// wantIndex compares at each place.
func wantIndex(s, of string) int {
	for i := range len(s) {
		if of != "" && len(of) <= len(s)-i && s[i:i+len(of)] == of {
			return i + 1
		}
	}
	return 0
}

func TestSubstringsAreFoundWhereTheyOccur(t *testing.T) {
	parts := allStrings("ab", 4)
	for _, s := range allStrings("ab", 8) {
		for _, of := range parts {
			at := impl.IndexOf(s, of)
			if want := wantIndex(s, of); at != want {
				t.Fatalf("IndexOf(%q, %q) = %d; want %d", s, of, at, want)
			}
			if at > 0 && impl.SubText(s, at, len(of)) != of {
				t.Fatalf("%q is not at %d in %q", of, at, s)
			}
		}
	}
	dice := treeMaker(777)
	for range 20000 {
		var bytes []byte
		for range 1 + dice.below(600) {
			bytes = append(bytes, "\x00ab\xffé"[dice.below(6)])
		}
		s := string(bytes)
		from, n := 1+dice.below(len(s)), 1+dice.below(12)
		part := impl.SubText(s, from, n)
		checkSubText(t, s, from, n, s[from-1:min(from-1+n, len(s))])
		at := impl.IndexOf(s, part)
		checkIndexOf(t, s, part, wantIndex(s, part))
		if at < 1 || at > from || impl.SubText(s, at, len(part)) != part {
			t.Fatalf("%q, which is at %d in %q, is found at %d", part, from, s, at)
		}
	}
}

func TestUpper(t *testing.T) {
	const small, large = "abcdefghijklmnopqrstuvwxyz", "ABCDEFGHIJKLMNOPQRSTUVWXYZ"
	var all, want []byte
	for b := range 256 {
		upper := byte(b)
		if i := strings.IndexByte(small, byte(b)); i >= 0 {
			upper = large[i]
		}
		all, want = append(all, byte(b)), append(want, upper)
		if got := impl.Upper(string([]byte{byte(b)})); got != string([]byte{upper}) {
			t.Errorf("Upper of byte %d = %q; want %q", b, got, []byte{upper})
		}
	}
	for _, x := range [][2]string{
		{"", ""}, {"aZ9z", "AZ9Z"}, {small, large}, {large, large}, {small + large + small, large + large + large}, {string(all), string(want)},
		{"é", "é"}, {"ß", "ß"}, {"ıſ", "ıſ"}, {"aéb", "AéB"}, {"\xffa\xfe", "\xffA\xfe"}, {"`{@[", "`{@["}, {strings.Repeat("a é", 5000), strings.Repeat("A é", 5000)},
	} {
		if got := impl.Upper(x[0]); got != x[1] || impl.Upper(got) != got {
			t.Errorf("Upper(%.60q) = %.60q; want %.60q", x[0], got, x[1])
		}
	}
}

// None of these functions has a limit for its strings, and none takes long.
func TestValuesOfLongStrings(t *testing.T) {
	const size = 1 << 22
	s := strings.Repeat("a", size) + "b"
	soon(t, "long strings", func() {
		checkSubText(t, s, size, 5, "ab")
		checkSubText(t, s, 3, impl.MaxDec, s[2:])
		checkSubText(t, s, -1, size, s[:size-2])
		checkIndexOf(t, s, "b", size+1)
		checkIndexOf(t, s, "aab", size-1)
		checkIndexOf(t, s, s[size/2:], size/2+1)
		checkIndexOf(t, s, "c"+s, 0)
		if got := impl.Upper(s); got != strings.Repeat("A", size)+"B" {
			t.Errorf("Upper of a long string has %d other bytes", len(got))
		}
		for tag := -1; tag <= 4; tag++ {
			checkPair(t, impl.Cell{Tag: tag, S: s}, impl.Cell{Tag: tag, S: s}, []int{impl.NkPlus, impl.NkSame})
			checkCell(t, impl.Cell{Tag: tag, S: strings.Repeat("1", size)})
		}
		if impl.FieldCell(s) != unset || impl.FieldCell(strings.Repeat("1", size)) != unset || impl.FieldCell(strings.Repeat(" ", size)) != unset {
			t.Error("FieldCell of a long string is not the zero value")
		}
	})
}

func TestValuesAreNew(t *testing.T) {
	for _, s := range []string{"text of a cell", "  12345678.5  ", "UPPER", strings.Repeat("x", impl.MaxStr)} {
		c := impl.FieldCell(s)
		for _, got := range []string{c.S, impl.ToStr(cellStr(s)), impl.SubText(s, 1, len(s)), impl.SubText(s, 1, impl.MaxDec), impl.SubText(s, 2, 3), impl.Upper(s)} {
			if got == "" || sharesBytes(got, s) {
				t.Errorf("%.60q shares its bytes with %.60q", got, s)
			}
		}
		if sharesBytes(impl.ToStr(c), c.S) {
			t.Errorf("ToStr of %s shares its bytes", show(c))
		}
	}
}
