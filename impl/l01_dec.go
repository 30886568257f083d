package impl

import (
	"cmp"
	"math/bits"
	"strconv"
)

const One = 1000000
const MaxDec = 9000000000000

// One is 10 to this power.
const fracDigits = 6

// A dec is the argument or the result of an operation; it is a decimal only
// if it is ok.
type dec int

func (d dec) ok() bool {
	return -MaxDec <= d && d <= MaxDec
}

func (d dec) checked() (int, bool) {
	if !d.ok() {
		return 0, false
	}
	return int(d), true
}

func (d dec) size() uint64 {
	if d < 0 {
		return uint64(-d)
	}
	return uint64(d)
}

func (d dec) times(e dec) (int, bool) {
	// The product before the division by One may have more than 64 bits.
	high, low := bits.Mul64(d.size(), e.size())
	if high >= One {
		return 0, false // Div64 panics if the quotient has more than 64 bits
	}
	quotient, _ := bits.Div64(high, low, One)
	if quotient > MaxDec {
		return 0, false
	}
	// Truncating the sizes is what truncates towards 0 for either sign.
	if (d < 0) != (e < 0) {
		return -int(quotient), true
	}
	return int(quotient), true
}

func (d dec) whole() dec {
	return d - d%One
}

func (d dec) fracText() string {
	rest := dec(d.size() % One)
	if rest == 0 {
		return ""
	}
	text := []byte{'.'}
	for range fracDigits {
		if rest == 0 {
			break
		}
		rest *= 10
		text = append(text, byte('0'+rest/One))
		rest %= One
	}
	return string(text)
}

func (d dec) text() string {
	// The sign is printed apart, because the integral part of -0.5 is 0.
	sign := ""
	if d < 0 {
		sign = "-"
	}
	return sign + strconv.FormatUint(d.size()/One, 10) + d.fracText()
}

func bothOk(a int, b int) bool {
	return dec(a).ok() && dec(b).ok()
}

func DecOk(n int) bool {
	return dec(n).ok()
}

func DecAdd(a int, b int) (int, bool) {
	if !bothOk(a, b) {
		return 0, false
	}
	return dec(a + b).checked()
}

func DecSub(a int, b int) (int, bool) {
	if !bothOk(a, b) {
		return 0, false
	}
	return dec(a - b).checked()
}

func DecMul(a int, b int) (int, bool) {
	if !bothOk(a, b) {
		return 0, false
	}
	return dec(a).times(dec(b))
}

func DecDiv(a int, b int) (int, bool) {
	if !bothOk(a, b) || b == 0 {
		return 0, false
	}
	// MaxDec * One is less than 2^63, so this product cannot wrap around.
	return dec(a * One / b).checked()
}

func DecMod(a int, b int) (int, bool) {
	if !bothOk(a, b) || b == 0 {
		return 0, false
	}
	return a % b, true
}

func DecInt(n int) int {
	if !DecOk(n) {
		return 0
	}
	return int(dec(n).whole())
}

func DecText(n int) string {
	if !DecOk(n) {
		return ""
	}
	return dec(n).text()
}

func isSpace(b byte) bool {
	return b == ' ' || b == '\t' || b == '\n'
}

func isDigit(b byte) bool {
	return '0' <= b && b <= '9'
}

func spaceEnd(s string, at int) int {
	for at < len(s) && isSpace(s[at]) {
		at++
	}
	return at
}

func digitsEnd(s string, at int) int {
	for at < len(s) && isDigit(s[at]) {
		at++
	}
	return at
}

func wholeValue(digits string) int {
	n := 0
	for i := range len(digits) {
		// Without the limit, many digits would make n wrap around.
		n = min(n*10+int(digits[i]-'0'), MaxDec/One)
	}
	return n * One
}

func fracValue(digits string) int {
	n := 0
	for i := range fracDigits {
		n *= 10
		if i < len(digits) {
			n += int(digits[i] - '0')
		}
	}
	return n
}

func ReadDec(s string) (int, int) {
	start := spaceEnd(s, 0)
	negative := start < len(s) && s[start] == '-'
	if negative || start < len(s) && s[start] == '+' {
		start++
	}
	point := digitsEnd(s, start)
	end := point
	frac := ""
	if point < len(s) && s[point] == '.' {
		end = digitsEnd(s, point+1)
		frac = s[point+1 : end]
	}
	if point == start && frac == "" {
		return 0, 0
	}
	n := min(wholeValue(s[start:point])+fracValue(frac), MaxDec)
	if negative {
		n = -n
	}
	return n, end
}

func LooksNum(s string) bool {
	_, taken := ReadDec(s)
	return taken > 0 && spaceEnd(s, taken) == len(s)
}

func DecNeg(n int) int {
	if !DecOk(n) {
		return 0
	}
	return -n
}

func DecFrac(n int) int {
	if !DecOk(n) {
		return 0
	}
	return n - DecInt(n)
}

func DecCmp(a int, b int) int {
	if !bothOk(a, b) {
		return 0
	}
	return cmp.Compare(a, b)
}
