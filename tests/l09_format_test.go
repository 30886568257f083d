package tests

import (
	"math"
	"regexp"
	"slices"
	"strconv"
	"strings"
	"testing"

	"loop.example/g00700/impl"
)

// What follows says in other words what chapter 9 says.

var percents = regexp.MustCompile(`%(?:%|(-?)([0-9]?[0-9]?)([ds]))`)

// wantKinds returns the letters of the conversions. In a format no % remains where
// conversions and %% are taken out.
func wantKinds(f string) (string, bool) {
	if len(f) > impl.MaxStr || strings.Contains(percents.ReplaceAllString(f, "!"), "%") {
		return "", false
	}
	kinds := ""
	for _, found := range percents.FindAllStringSubmatch(f, -1) {
		kinds += found[3]
	}
	return kinds, true
}

// wantPrinted takes a valid value; found are a conversion and its three parts.
func wantPrinted(found []string, c impl.Cell) string {
	s := wantStr(c)
	if found[3] == "d" {
		s = strconv.Itoa(wantNum(c) / one)
	}
	width, _ := strconv.Atoi("0" + found[2])
	for len(s) < width {
		if found[1] == "-" {
			s += " "
		} else {
			s = " " + s
		}
	}
	return s
}

func wantFormat(f string, l []impl.Cell) (string, int) {
	kinds, ok := wantKinds(f)
	for _, c := range l {
		ok = ok && wantCellOk(c)
	}
	if !ok {
		return "", impl.FmBad
	}
	if len(kinds) > len(l) {
		return "", impl.FmShort
	}
	used := 0
	out := percents.ReplaceAllStringFunc(f, func(s string) string {
		if s == "%%" {
			return "%"
		}
		used++
		return wantPrinted(percents.FindStringSubmatch(s), l[used-1])
	})
	if len(out) > impl.MaxStr {
		return "", impl.FmLong
	}
	return out, impl.FmOk
}

// briefCells is a list for messages, without the whole of a long one.
func briefCells(l []impl.Cell) string {
	all := strconv.Itoa(len(l)) + ":"
	for i, c := range l {
		if i == 8 {
			return all + " .."
		}
		all += " " + show(c)
	}
	return all
}

func briefFormat(f string) string {
	return strconv.Itoa(len(f)) + " bytes " + brief([]string{f})
}

func checkFormat(t *testing.T, f string, want string, l ...impl.Cell) {
	t.Helper()
	if got, code := impl.Format(f, l); got != want || code != impl.FmOk {
		t.Errorf("Format of %s with %s = %.80q, %d bytes, %d; want %.80q, %d", briefFormat(f), briefCells(l), got, len(got), code, want, len(want))
	}
}

func checkNoFormat(t *testing.T, f string, want int, l ...impl.Cell) {
	t.Helper()
	if got, code := impl.Format(f, l); got != "" || code != want {
		t.Errorf("Format of %s with %s = %.80q, %d; want code %d", briefFormat(f), briefCells(l), got, code, want)
	}
}

func checkPlaces(t *testing.T, f, kinds string, ok bool) {
	t.Helper()
	if got := impl.PlaceKinds(f); got != kinds {
		t.Errorf("PlaceKinds of %s = %.80q; want %.80q", briefFormat(f), got, kinds)
	}
	if n, fine := impl.Places(f); n != len(kinds) || fine != ok {
		t.Errorf("Places of %s = %d, %v; want %d, %v", briefFormat(f), n, fine, len(kinds), ok)
	}
}

// checkFormatting compares all three functions with what they should be.
func checkFormatting(t *testing.T, f string, l ...impl.Cell) {
	t.Helper()
	kinds, ok := wantKinds(f)
	checkPlaces(t, f, kinds, ok)
	if want, code := wantFormat(f, l); code == impl.FmOk {
		checkFormat(t, f, want, l...)
	} else {
		checkNoFormat(t, f, code, l...)
	}
}

func cells(c impl.Cell, n int) []impl.Cell { return slices.Repeat([]impl.Cell{c}, n) }

// checkKinds is for formats with these conversions.
func checkKinds(t *testing.T, f string, kinds string) {
	t.Helper()
	checkPlaces(t, f, kinds, true)
	// With enough values, all of them unset, and with one too few.
	checkFormatting(t, f, cells(unset, len(kinds))...)
	checkFormatting(t, f, cells(unset, len(kinds)+1)...)
	if kinds != "" {
		checkNoFormat(t, f, impl.FmShort, cells(unset, len(kinds)-1)...)
		checkNoFormat(t, f, impl.FmShort)
	}
}

// checkBad is for what is no format.
func checkBad(t *testing.T, f string) {
	t.Helper()
	checkPlaces(t, f, "", false)
	for _, n := range []int{0, 1, 2, 5, 300} {
		checkNoFormat(t, f, impl.FmBad, cells(unset, n)...)
		checkNoFormat(t, f, impl.FmBad, cells(cellNum(3*one), n)...)
	}
}

func TestFormatConstants(t *testing.T) {
	if impl.FmOk != 0 || impl.FmBad != 1 || impl.FmShort != 2 || impl.FmLong != 3 {
		t.Error("a code of Format has another value")
	}
}

func TestPlaces(t *testing.T) {
	for _, x := range []struct{ f, kinds string }{
		// Without a %.
		{"", ""}, {"a", ""}, {" ", ""}, {"d", ""}, {"s", ""}, {"-5d", ""}, {"7s", ""}, {"a b\n\tc", ""}, {"\\n", ""}, {"\x00", ""}, {"\xff", ""}, {"é", ""}, {"ds", ""},
		// One conversion.
		{"%d", "d"}, {"%s", "s"}, {"a%d", "d"}, {"%da", "d"}, {"a%sb", "s"}, {"%dd", "d"}, {"%ds", "d"}, {"%sd", "s"}, {"%ss", "s"}, {" %d ", "d"}, {"%d5", "d"}, {"%s-", "s"}, {"-%d", "d"}, {"5%s", "s"},
		// Several of them.
		{"%d%d", "dd"}, {"%s%s", "ss"}, {"%d%s", "ds"}, {"%s%d", "sd"}, {"%s %d, %s\n", "sds"}, {"%d%d%d%s%s%d", "dddssd"}, {"a%db%sc%dd", "dsd"}, {"%5d%-5d%05s%s", "ddss"},
		{"%s %% %-12d", "sd"}, {"%ds%sd", "ds"}, {"%-d-%-d", "dd"}, {"%7s7%7s", "ss"},
		// A double %, alone, in a row and next to a conversion.
		{"%%", ""}, {"a%%", ""}, {"%%a", ""}, {"a%%b", ""}, {"%%%%", ""}, {"%%%%%%", ""}, {"%% %%", ""}, {"%%a%%b%%", ""}, {"%%d", ""}, {"%%s", ""}, {"%%5d", ""}, {"%%-", ""}, {"%%-5s", ""}, {"%%x", ""},
		{"%%%d", "d"}, {"%d%%", "d"}, {"%%%s%%", "s"}, {"%s%%%s", "ss"}, {"%d%%%%%d", "dd"}, {"%%%%%d", "d"}, {"%%%%d", ""}, {"%%d%d", "d"}, {"%5d%%5d", "d"}, {"%%%-7s%%", "s"}, {"%%%%%%%s", "s"}, {"%%\n%s", "s"},
		// Widths, with and without zeros in front.
		{"%0d", "d"}, {"%1d", "d"}, {"%5d", "d"}, {"%9s", "s"}, {"%00d", "d"}, {"%01s", "s"}, {"%05d", "d"}, {"%10s", "s"}, {"%99d", "d"}, {"%90s", "s"},
		{"%-d", "d"}, {"%-s", "s"}, {"%-0s", "s"}, {"%-1d", "d"}, {"%-5d", "d"}, {"%-9s", "s"}, {"%-00s", "s"}, {"%-01d", "d"}, {"%-05d", "d"}, {"%-10s", "s"}, {"%-99d", "d"},
		{"%5d5", "d"}, {"%55s55", "s"}, {"%-5d-5", "d"}, {"%99d9", "d"},
		// Other bytes beside conversions.
		{"\x00%d\x00", "d"}, {"\xff%s\xff", "s"}, {"é%dé", "d"}, {"\xc3%s\xa9", "s"}, {"\x00%%\xff", ""}, {"\xe2\x80%5d\xa8", "d"}, {"٪d", ""}, {"％d", ""}, {"\n%d\n%s\n", "ds"},
	} {
		checkKinds(t, x.f, x.kinds)
	}
}

func TestNoPlaces(t *testing.T) {
	for _, f := range []string{
		// A % at the end.
		"%", "a%", "%d%", "%%%", "%%a%", "%s%%%", "%%%%%", " %", "%5d%", "é%", "\x00%", "\n%",
		// A - or digits at the end.
		"%-", "a%-", "%d%-", "%%%-", "%5", "%0", "%9", "%55", "%00", "%99", "%-5", "%-0", "%-55", "%-00", "%-99", "a%5", "%s%5", "%%%5", "%%%55", "%s%-5", "%s%-55",
		// Three digits or more.
		"%123d", "%123s", "%000d", "%005d", "%100s", "%999d", "%-123d", "%-000s", "%-005s", "%1234d", "%-1234s", "%00000d", "%123", "%-123", "%1000000000000000000000d", "%18446744073709551617s", "a%123db", "%d%123d",
		// A - behind a digit, and two of them.
		"%5-d", "%5-s", "%5-", "%5-5d", "%12-d", "%0-5d", "%-5-d", "%-12-s", "%-5-", "%--d", "%--s", "%--", "%--5d", "%---d", "%-5--d", "%--12s", "%- -d",
		// Other bytes where a letter must be.
		"%D", "%S", "%i", "%f", "%c", "%x", "%q", "%u", "%v", "%e", "%g", "%ld", "%hd", "%lld", "%n", "%p", "%a", "%o", "%5D", "%5S", "%-5D", "%12S", "%-S", "%5x", "%-5x", "%12x", "%-12q",
		"% d", "% s", "%5 d", "%- d", "%-5 s", "%12 s", "%d % d", "%\td", "%\nd", "%5\ns",
		"%+d", "%#d", "%.d", "%.2d", "%5.2d", "%5.s", "%.5s", "%'d", "%*d", "%*s", "%-*d", "%1$d", "%,d", "%_d", "%+5d", "%-+5d", "%5+d",
		// A second % that does not follow immediately.
		"%5%", "%-%", "%-5%", "%0%", "%55%", "%-55%", "%5%d", "%-%d", "%-%s", "%5%%", "%-%%", "% %", "%5%%d", "%-5%s", "%%%5%",
		// Bytes 0 and above 127.
		"%\x00", "%\x00d", "%5\x00d", "%-\x00d", "%\xff", "%\xffd", "%5\xff", "%-\xffs", "%é", "%éd", "%5é", "%٣d", "%²d", "%５d", "%\u00a0d", "%\u2212d", "%\xe4", "%\xf3", "%\ufeffd",
		// A valid conversion before, behind and on both sides.
		"%d%q", "%q%d", "%s%q%s", "%d%%%q", "%%%q%d", "%x%%", "%d%d%d%", "abc%d%s%%%-5", "%z%5d",
	} {
		checkBad(t, f)
	}
}

// Every byte behind what may precede a letter, and behind what may not.
func TestPlacesOfEachByte(t *testing.T) {
	for b := range 256 {
		c := string([]byte{byte(b)})
		letter, digit := b == 'd' || b == 's', b >= '0' && b <= '9'
		for _, x := range []struct {
			before string
			ok     bool
			two    bool // may a digit and then a letter follow?
		}{
			{"%", true, true}, {"%-", true, true}, {"%7", true, true}, {"%-7", true, true}, {"%0", true, true}, {"%-0", true, true}, {"%9", true, true},
			{"%12", true, false}, {"%-12", true, false}, {"%00", true, false}, {"%-99", true, false},
			{"%123", false, false}, {"%-123", false, false}, {"%7-", false, false}, {"%-7-", false, false}, {"%--", false, false}, {"% ", false, false}, {"%x", false, false}, {"%\x00", false, false}, {"%\xc3", false, false},
		} {
			f := x.before + c
			dash, double := b == '-' && x.before == "%", b == '%' && x.before == "%"
			switch {
			case double:
				checkKinds(t, f, "")
			case x.ok && letter:
				checkKinds(t, f, c)
			default:
				checkBad(t, f)
			}
			switch {
			case double:
				checkKinds(t, f+"d", "")
			case x.ok && letter:
				checkKinds(t, f+"d", c)
			case x.two && digit || dash:
				checkKinds(t, f+"d", "d")
				checkKinds(t, "%s"+f+"s%%", "ss")
			default:
				checkBad(t, f+"d")
				checkBad(t, "%s"+f+"s%%")
			}
		}
		// As text, before, between and behind conversions.
		if b != '%' {
			checkKinds(t, c, "")
			checkKinds(t, c+"%d"+c+"%-5s"+c+c, "ds")
			checkKinds(t, c+"%%"+c, "")
			checkFormat(t, c+"%d"+c+"%s"+c+"%%"+c+c, c+"3"+c+c+c+"%"+c+c, cellNum(3*one), cellStr(c))
		}
		// As a value.
		checkFormat(t, "%s|%3s|%-3s", c+"|  "+c+"|"+c+"  ", cells(cellStr(c), 3)...)
		if !digit {
			checkFormat(t, "%d", "0", cellStr(c))
			checkFormat(t, "%d", "5", cellStr("5"+c))
		}
	}
}

// formatsOfSize returns formats of size bytes, with their conversions.
func formatsOfSize(size int) map[string]string {
	formats := map[string]string{long(size): "", strings.Repeat("\xff", size): "", strings.Repeat("\x00", size): "", strings.Repeat("d", size): "", strings.Repeat(" ", size): ""}
	for _, x := range []struct{ unit, kinds string }{
		{"%d", "d"}, {"%s", "s"}, {"%%", ""}, {"%5d", "d"}, {"%-s", "s"}, {"%99s", "s"}, {"%-0d", "d"}, {"%-12s", "s"}, {"%d%%", "d"}, {"a%s", "s"}, {"%sa", "s"}, {"%d%s", "ds"}, {"%s%%%-7d", "sd"},
	} {
		n := size / len(x.unit)
		all, rest := strings.Repeat(x.unit, n), long(size%len(x.unit))
		formats[rest+all] = strings.Repeat(x.kinds, n)
		formats[all+rest] = strings.Repeat(x.kinds, n)
		formats[long(size-len(x.unit))+x.unit] = x.kinds
		formats[x.unit+long(size-len(x.unit))] = x.kinds
	}
	return formats
}

func TestPlacesLimit(t *testing.T) {
	for _, size := range []int{498, 499, 500} {
		for f, kinds := range formatsOfSize(size) {
			checkKinds(t, f, kinds)
		}
		checkKinds(t, strings.Repeat("%d", size/2), strings.Repeat("d", size/2))
		checkBad(t, long(size-1)+"%")
		checkBad(t, "%"+long(size-1))
		checkBad(t, long(size-2)+"%5")
		checkBad(t, long(size-2)+"%-")
		checkBad(t, long(size-3)+"%-5")
		checkBad(t, strings.Repeat("%d", size/2-1)+"%x")
		checkBad(t, "%x"+strings.Repeat("%d", size/2-1))
		checkBad(t, "%"+strings.Repeat("7", size-2)+"d")
		checkBad(t, "%"+strings.Repeat("-", size-2)+"d")
		checkBad(t, "%"+strings.Repeat("0", size-2)+"s")
	}
	checkKinds(t, strings.Repeat("%d", 250), strings.Repeat("d", 250))
	checkKinds(t, strings.Repeat("%s", 250), strings.Repeat("s", 250))
	checkKinds(t, strings.Repeat("%d%s", 125), strings.Repeat("ds", 125))
	checkKinds(t, strings.Repeat("%-05d", 100), strings.Repeat("d", 100))
	checkKinds(t, strings.Repeat("%", 500), "")
	checkBad(t, strings.Repeat("%", 499))
	for _, size := range []int{501, 502, 505, 1000, 1 << 16} {
		for f := range formatsOfSize(size) {
			checkBad(t, f)
		}
		checkBad(t, strings.Repeat("%", size))
		checkBad(t, long(size-1)+"%")
	}
}

// All strings over few bytes.
func TestAllShortFormats(t *testing.T) {
	l := []impl.Cell{cellNum(-2500000), cellStr("ab"), cellBoth(12*one, "12 "), unset}
	for _, x := range []struct {
		alphabet string
		most     int
	}{{"%-7ds", 7}, {"%0d", 8}, {"%-09s x\xff\x00", 5}, {"%dS", 7}} {
		for _, f := range allStrings(x.alphabet, x.most) {
			checkFormatting(t, f, l...)
		}
	}
}

// A value and what d and s print for it.
type printed struct {
	c    impl.Cell
	d, s string
}

func printedValues() []printed {
	const most = impl.MaxDec
	nines, x := strings.Repeat("9", 400), long(500)
	return []printed{
		{unset, "0", ""},
		// Numbers, with a fraction, negative, at the ends.
		{cellNum(0), "0", "0"}, {cellNum(one), "1", "1"}, {cellNum(-one), "-1", "-1"}, {cellNum(12 * one), "12", "12"}, {cellNum(-12 * one), "-12", "-12"}, {cellNum(12345 * one), "12345", "12345"},
		{cellNum(2500000), "2", "2.5"}, {cellNum(-2500000), "-2", "-2.5"}, {cellNum(999999), "0", "0.999999"}, {cellNum(-999999), "0", "-0.999999"}, {cellNum(1), "0", "0.000001"}, {cellNum(-1), "0", "-0.000001"},
		{cellNum(1999999), "1", "1.999999"}, {cellNum(-1999999), "-1", "-1.999999"}, {cellNum(-1000001), "-1", "-1.000001"}, {cellNum(1500000), "1", "1.5"}, {cellNum(100 * one), "100", "100"}, {cellNum(7 * one), "7", "7"},
		{cellNum(most), "9000000", "9000000"}, {cellNum(-most), "-9000000", "-9000000"}, {cellNum(most - 1), "8999999", "8999999.999999"}, {cellNum(1 - most), "-8999999", "-8999999.999999"},
		// Strings that do not look like numbers, and those that do but came from elsewhere.
		{cellStr(""), "0", ""}, {cellStr("ab"), "0", "ab"}, {cellStr(" "), "0", " "}, {cellStr("12x"), "12", "12x"}, {cellStr("-2.5x"), "-2", "-2.5x"}, {cellStr(" 7 8"), "7", " 7 8"}, {cellStr("x7"), "0", "x7"}, {cellStr("1e3"), "1", "1e3"},
		{cellStr("12"), "12", "12"}, {cellStr("2.5"), "2", "2.5"}, {cellStr("-0.5"), "0", "-0.5"}, {cellStr("-"), "0", "-"}, {cellStr("0x1f"), "0", "0x1f"}, {cellStr("007"), "7", "007"}, {cellStr("1.9999999"), "1", "1.9999999"},
		{cellStr(nines), "9000000", nines}, {cellStr("-" + nines), "-9000000", "-" + nines}, {cellStr("9000001x"), "9000000", "9000001x"},
		{cellStr("%"), "0", "%"}, {cellStr("%%"), "0", "%%"}, {cellStr("%d"), "0", "%d"}, {cellStr("%s%s"), "0", "%s%s"}, {cellStr("3%d"), "3", "3%d"}, {cellStr("%5"), "0", "%5"},
		{cellStr("é"), "0", "é"}, {cellStr("日本"), "0", "日本"}, {cellStr("\xff"), "0", "\xff"}, {cellStr("\x00"), "0", "\x00"}, {cellStr("a\nb"), "0", "a\nb"}, {cellStr("\t"), "0", "\t"}, {cellStr("\xc3"), "0", "\xc3"}, {cellStr(x), "0", x}, {cellStr(x[1:]), "0", x[1:]},
		// Strings from an input that look like numbers.
		{cellBoth(12*one, "12"), "12", "12"}, {cellBoth(12*one, " 12 "), "12", " 12 "}, {cellBoth(-2500000, "-2.50"), "-2", "-2.50"}, {cellBoth(0, "-0.0"), "0", "-0.0"}, {cellBoth(0, "00"), "0", "00"}, {cellBoth(7*one, "+007."), "7", "+007."},
		{cellBoth(500000, ".5\n"), "0", ".5\n"}, {cellBoth(-500000, "\t-.5"), "0", "\t-.5"}, {cellBoth(1999999, "1.9999999"), "1", "1.9999999"}, {cellBoth(most, nines), "9000000", nines}, {cellBoth(-most, "-9000001"), "-9000000", "-9000001"}, {cellBoth(most-1, "8999999.999999"), "8999999", "8999999.999999"},
	}
}

// padded is s with blanks up to a width, on the left and on the right.
func padded(s string, width int) (string, string) {
	blanks := ""
	for len(blanks)+len(s) < width {
		blanks += " "
	}
	return blanks + s, s + blanks
}

func TestFormatOfEachValue(t *testing.T) {
	for _, x := range printedValues() {
		if !wantCellOk(x.c) {
			t.Fatalf("%s is not valid", show(x.c))
		}
		for _, kind := range []struct{ letter, text string }{{"d", x.d}, {"s", x.s}} {
			checkFormat(t, "%"+kind.letter, kind.text, x.c)
			checkFormat(t, "%-"+kind.letter, kind.text, x.c)
			size := len(kind.text)
			for _, width := range []int{0, 1, 2, 3, size - 1, size, size + 1, size + 5, 9, 10, 20, 98, 99} {
				if width < 0 || width > 99 {
					continue
				}
				left, right := padded(kind.text, width)
				digits := []string{strconv.Itoa(width)}
				if width < 10 {
					digits = append(digits, "0"+digits[0])
				}
				for _, digits := range digits {
					checkFormat(t, "%"+digits+kind.letter, left, x.c)
					checkFormat(t, "%-"+digits+kind.letter, right, x.c)
					if len(left) < 240 {
						checkFormat(t, "<%"+digits+kind.letter+"|%-"+digits+kind.letter+">", "<"+left+"|"+right+">", x.c, x.c)
					}
				}
			}
		}
	}
}

func TestFormatOfEachWidth(t *testing.T) {
	for width := range 100 {
		two := strconv.Itoa(width/10) + strconv.Itoa(width%10)
		for _, digits := range []string{two, strings.TrimPrefix(two, "0")} {
			for _, c := range []impl.Cell{unset, cellNum(-7*one - 1), cellStr("abc"), cellBoth(3*one, "3.0"), cellStr(long(50))} {
				for _, kind := range []string{"d", "s"} {
					bare, _ := wantFormat("%"+kind, []impl.Cell{c})
					left, right := padded(bare, width)
					checkFormat(t, "%"+digits+kind, left, c)
					checkFormat(t, "%-"+digits+kind, right, c)
				}
			}
		}
	}
}

func TestFormat(t *testing.T) {
	l := []impl.Cell{cellNum(-2500000), cellStr("ab"), unset, cellBoth(7*one, " 7")}
	for _, x := range []struct{ f, want string }{
		{"", ""}, {"a", "a"}, {"a b\n", "a b\n"}, {"%%", "%"}, {"%%%%", "%%"}, {"a%%b", "a%b"}, {"%%d", "%d"}, {"%%5s", "%5s"}, {"%%%%d", "%%d"}, {"%%%%%%", "%%%"},
		{"%d", "-2"}, {"%s", "-2.5"}, {"%%%d", "%-2"}, {"%d%%", "-2%"}, {"%5d%%5d", "   -2%5d"}, {"%%%s%%%s%%", "%-2.5%ab%"},
		{"%d|%4s|%-3s|%%", "-2|  ab|   |%"}, {"%s%s%s%s", "-2.5ab 7"}, {"%d%d%d%d", "-2007"}, {"%3d%3d%3d%3d", " -2  0  0  7"}, {"%-3d%-3d%-3d%-3d|", "-2 0  0  7  |"}, {"%3s%3s%3s%3s", "-2.5 ab     7"}, {"%-3s%-3s%-3s%-3s|", "-2.5ab     7 |"},
		{"x%dy%sz%dw", "x-2yabz0w"}, {"%dd%ss", "-2dabs"}, {"%d5%s-", "-25ab-"}, {"%05d", "   -2"}, {"%-05d|", "-2   |"}, {"%00d", "-2"}, {"%01s", "-2.5"},
		{"\x00%d\xff%s\x00", "\x00-2\xffab\x00"}, {"é%sé", "é-2.5é"}, {"\n%s\n%s\n", "\n-2.5\nab\n"}, {"\xc3%s\xa9", "\xc3-2.5\xa9"},
	} {
		checkFormat(t, x.f, x.want, l...)
	}
	// Bytes are counted, not runes, and a value is no format.
	checkFormat(t, "%5d", "   12", cellStr("12x"))
	checkFormat(t, "%3s|%-3s|", " é|é |", cellStr("é"), cellStr("é"))
	checkFormat(t, "%4s|%-4s|", " \xe6\x97\xa5|\xe6\x97\xa5 |", cellStr("日"), cellStr("日"))
	checkFormat(t, "%s%s", "%s%d", cellStr("%s"), cellStr("%d"))
	checkFormat(t, "%s%%%s", "%%%%%", cellStr("%%"), cellStr("%%"))
	checkFormat(t, "%s%d", "%1", cellStr("%"), cellNum(one))
}

// Values that the format does not need change nothing, and none may be missing.
func TestFormatCountsTheValues(t *testing.T) {
	for n := range 251 {
		for _, x := range []struct{ unit, want string }{{"%d", "3"}, {"%s", "3"}, {"%d%%", "3%"}, {"%-s", "3"}, {"a%db", "a3b"}} {
			if n*len(x.unit) > impl.MaxStr {
				continue
			}
			f, want := strings.Repeat(x.unit, n), strings.Repeat(x.want, n)
			for _, more := range []int{0, 1, 2, 300} {
				checkFormat(t, f, want, cells(cellNum(3*one), n+more)...)
			}
			// Surplus values are not printed.
			checkFormat(t, f, want, append(cells(cellNum(3*one), n), cellStr("other"), unset, cellStr(long(500)))...)
			for missing := 1; missing <= n; missing += 1 + missing/2 {
				checkNoFormat(t, f, impl.FmShort, cells(cellNum(3*one), n-missing)...)
			}
			if n > 0 {
				checkNoFormat(t, f, impl.FmShort)
			}
		}
	}
	for _, f := range []string{"", "a", "%%", "%%d", "%%%%s", long(500)} {
		want := strings.ReplaceAll(f, "%%", "%")
		checkFormat(t, f, want)
		checkFormat(t, f, want, cellStr("x"))
		checkFormat(t, f, want, cells(cellStr(long(500)), 1000)...)
	}
}

func TestFormatOfValuesThatAreNotValid(t *testing.T) {
	good := []impl.Cell{cellNum(3 * one), cellStr("ab"), cellBoth(7*one, "7"), unset}
	for _, bad := range badCells() {
		if wantCellOk(bad) {
			t.Fatalf("%s is valid", show(bad))
		}
		for i := range len(good) + 1 {
			l := slices.Insert(slices.Clone(good), i, bad)
			// As one that is printed by d or s, as a surplus one, and where none is printed.
			for _, f := range []string{"%d%d%d%d%d", "%s%s%s%s%s", "%9s%-9d%s", "%d", "%s", "", "a", "%%", "%%%%d"} {
				checkNoFormat(t, f, impl.FmBad, l...)
				checkNoFormat(t, f, impl.FmBad, l[:i+1]...)
				checkNoFormat(t, f, impl.FmBad, l[i:]...)
			}
			// Beside another error.
			checkNoFormat(t, "%q", impl.FmBad, l...)
			checkNoFormat(t, "%d%", impl.FmBad, l...)
			checkNoFormat(t, long(501), impl.FmBad, l...)
			checkNoFormat(t, "%s%s%s%s%s%s", impl.FmBad, l...)
			checkNoFormat(t, strings.Repeat("%99d", 125), impl.FmBad, l...)
			checkNoFormat(t, strings.Repeat("%99d", 5)+long(100), impl.FmBad, l...)
		}
		checkNoFormat(t, "", impl.FmBad, bad)
		checkNoFormat(t, "%s", impl.FmBad, bad)
		checkNoFormat(t, "%d", impl.FmBad, bad)
		checkNoFormat(t, "%d%d", impl.FmBad, bad)
		checkNoFormat(t, "%d", impl.FmBad, bad, bad)
		checkNoFormat(t, "%s", impl.FmBad, append(cells(unset, 1000), bad)...)
	}
}

func TestFormatReportsTheFirstError(t *testing.T) {
	full, bad := cellStr(long(500)), cellNum(impl.MaxDec+1)
	// No format, beside each other error and beside all of them.
	for _, f := range []string{"%", "%x", "%s%", "%s%x", "%x%s", "%123s", "%s%s%5-d", "%s%s%s%--s", long(501), "%s" + long(499), strings.Repeat("%s", 251), "%99s" + long(500)} {
		checkNoFormat(t, f, impl.FmBad)
		checkNoFormat(t, f, impl.FmBad, full)
		checkNoFormat(t, f, impl.FmBad, full, full)
		checkNoFormat(t, f, impl.FmBad, cells(full, 300)...)
		checkNoFormat(t, f, impl.FmBad, bad)
		checkNoFormat(t, f, impl.FmBad, full, full, bad)
		checkNoFormat(t, f, impl.FmBad, append(cells(full, 300), bad)...)
	}
	// A value that is not valid, beside too few and beside a result that would be too long.
	checkNoFormat(t, "%s%s", impl.FmBad, bad)
	checkNoFormat(t, "%s%s%s", impl.FmBad, bad, unset)
	checkNoFormat(t, "%s%s%s", impl.FmBad, unset, bad)
	checkNoFormat(t, "%s%s%s", impl.FmBad, full, full, bad)
	checkNoFormat(t, "%s%s", impl.FmBad, full, full, bad)
	checkNoFormat(t, "%s%s%s%s", impl.FmBad, full, full, bad)
	checkNoFormat(t, "%s%s", impl.FmBad, cellStr(long(501)), full)
	checkNoFormat(t, "%s", impl.FmBad, cellStr(long(501)))
	// Too few values beside a result that would be too long.
	checkNoFormat(t, "%s%s%s", impl.FmShort, full, full)
	checkNoFormat(t, "%s%s", impl.FmShort, full)
	checkNoFormat(t, "x%s%s", impl.FmShort, full)
	checkNoFormat(t, strings.Repeat("%99d", 6), impl.FmShort, cells(unset, 5)...)
	checkNoFormat(t, strings.Repeat("%99d", 6), impl.FmShort)
	checkNoFormat(t, strings.Repeat("%99d", 125), impl.FmShort, cells(unset, 124)...)
	checkNoFormat(t, strings.Repeat("%s", 250), impl.FmShort, cells(full, 249)...)
	checkNoFormat(t, long(498)+"%s", impl.FmShort)
	// Nothing but a result that would be too long.
	checkNoFormat(t, "%s%s", impl.FmLong, full, full)
	checkNoFormat(t, "x%s", impl.FmLong, full)
	checkNoFormat(t, "%s%s", impl.FmLong, full, full, unset)
}

// checkSize is for what gives a result of a size: at, below or beyond the limit.
func checkSize(t *testing.T, f string, want string, l ...impl.Cell) {
	t.Helper()
	if len(want) > impl.MaxStr {
		checkNoFormat(t, f, impl.FmLong, l...)
		checkNoFormat(t, f, impl.FmLong, append(slices.Clone(l), unset)...)
	} else {
		checkFormat(t, f, want, l...)
		checkFormat(t, f, want, append(slices.Clone(l), unset)...)
	}
}

func TestFormatLimit(t *testing.T) {
	three := cellNum(3 * one)
	for size := 496; size <= 504; size++ {
		// By literal bytes.
		checkSize(t, long(size-7)+"%d", long(size-7)+"1234567", cellNum(1234567*one))
		checkSize(t, "%s"+long(size-7), "12345.5"+long(size-7), cellNum(12345500000))
		checkSize(t, "%d"+long(size-10)+"%d", "12345"+long(size-10)+"-2345", cellNum(12345*one), cellNum(-2345*one))
		checkSize(t, "%-d%s"+strings.Repeat("\xff", size-9), "-12345678"+strings.Repeat("\xff", size-9), cellNum(-1234*one), cellStr("5678"))
		// By widths, five of which make 495 bytes.
		left, right := padded("3", 99)
		last, first := padded("", size-495)
		width := strconv.Itoa(size - 495)
		checkSize(t, strings.Repeat("%99d", 5)+"%"+width+"s", strings.Repeat(left, 5)+last, append(cells(three, 5), unset)...)
		checkSize(t, "%-"+width+"s"+strings.Repeat("%-99s", 5), first+strings.Repeat(right, 5), append([]impl.Cell{unset}, cells(three, 5)...)...)
		checkSize(t, strings.Repeat("%99s", 5)+long(size-495), strings.Repeat(left, 5)+long(size-495), cells(three, 5)...)
		// By values.
		for n := max(0, size-500); n <= min(500, size); n += 31 {
			checkSize(t, "%s%s", long(size), cellStr(long(n)), cellStr(long(size-n)))
			blanks := strings.Repeat(" ", max(0, 99-n))
			rest := long(size - n - len(blanks))
			checkSize(t, "%99s%0s", blanks+long(n)+rest, cellStr(long(n)), cellStr(rest))
		}
		checkSize(t, strings.Repeat("%-05s", 99)+"%s", long(size), append(cells(cellStr(long(5)), 99), cellStr(long(size-495)))...)
		checkSize(t, strings.Repeat("%s", 249), long(size), append(cells(cellStr("xx"), 248), cellStr(long(size-496)))...)
		// By double percents, which become one byte.
		checkSize(t, strings.Repeat("%%", 249)+"%s", strings.Repeat("%", 249)+long(size-249), cellStr(long(size-249)))
		checkSize(t, "%s"+strings.Repeat("%%", 10), long(size-10)+strings.Repeat("%", 10), cellStr(long(size-10)))
		checkSize(t, "%%%s%%"+long(400), "%"+long(size-402)+"%"+long(400), cellStr(long(size-402)))
	}
	// A value alone is never too long, nor is a format without a conversion.
	checkFormat(t, "%s", long(500), cellStr(long(500)))
	checkFormat(t, "%-99s", long(500), cellStr(long(500)))
	checkFormat(t, long(500), long(500))
	checkFormat(t, strings.Repeat("%%", 250), strings.Repeat("%", 250))
	checkFormat(t, strings.Repeat("%d", 250), strings.Repeat("0", 250), cells(unset, 250)...)
	checkFormat(t, strings.Repeat("%s", 250), "", cells(unset, 250)...)
	checkFormat(t, strings.Repeat("%d", 250), strings.Repeat("10", 250), cells(cellNum(10*one), 250)...)
	checkNoFormat(t, strings.Repeat("%d", 250), impl.FmLong, append(cells(cellNum(10*one), 249), cellNum(100*one))...)
	// Far beyond the limit.
	full := cellStr(long(500))
	checkNoFormat(t, strings.Repeat("%s", 250), impl.FmLong, cells(full, 250)...)
	checkNoFormat(t, strings.Repeat("%s", 250), impl.FmLong, cells(full, 1<<16)...)
	checkNoFormat(t, strings.Repeat("%99d", 125), impl.FmLong, cells(unset, 125)...)
	checkNoFormat(t, strings.Repeat("%-99s", 100), impl.FmLong, cells(full, 100)...)
	checkNoFormat(t, long(498)+"%s", impl.FmLong, full)
	checkNoFormat(t, "%s"+strings.Repeat("%%", 249), impl.FmLong, full)
	checkNoFormat(t, "%99s"+long(496), impl.FmLong, unset)
	// As long as the limit before the last part or the first one.
	checkNoFormat(t, "%sx", impl.FmLong, full)
	checkNoFormat(t, "%s%%", impl.FmLong, full)
	checkNoFormat(t, "%s%d", impl.FmLong, full, unset)
	checkNoFormat(t, "%1s%s", impl.FmLong, unset, full)
	checkFormat(t, "%s%s%s", long(500), unset, full, unset)
	checkFormat(t, "%s%0s%-00s", long(500), full, unset, unset)
}

// drawFormat returns a format, or something near one.
func drawFormat(dice *treeMaker) string {
	units := []string{"%d", "%s", "%d", "%s", "%%", "a", " ", "text", "\n", "é", "\xff", "\x00", "5", "-", "d", "s"}
	for range 4 {
		dash := []string{"", "-"}[dice.below(2)]
		width := strconv.Itoa(dice.below(dice.below(130) + 1))
		units = append(units, "%"+dash+width[:min(2, len(width))]+[]string{"d", "s"}[dice.below(2)])
	}
	if dice.below(4) == 0 {
		units = append(units, "%", "%-", "%7", "%123d", "%D", "%--s")
	}
	return drawText(dice, units, []int{3, 6, 12, 12, 30, 300}[dice.below(6)])
}

// drawCells returns n values; few of them are long.
func drawCells(dice *treeMaker, n int) []impl.Cell {
	l := slices.Repeat([]impl.Cell{cellStr(drawText(dice, units, 1+dice.below(9)))}, n)
	for i := range l {
		switch dice.below(8) {
		case 0:
			l[i] = unset
		case 1, 2:
			l[i] = cellNum(dice.below(2000*one) - 1000*one)
		case 3:
			l[i] = cellNum(decimals()[dice.below(len(decimals()))])
		case 4, 5:
			l[i] = impl.FieldCell(drawText(dice, units, 6))
		case 6:
			l[i] = impl.FieldCell(inputs()[dice.below(len(inputs()))].s)
		}
	}
	return l
}

func TestDrawnFormats(t *testing.T) {
	dice := treeMaker(9)
	codes := map[int]int{}
	for range 20000 {
		f := drawFormat(&dice)
		kinds, _ := wantKinds(f)
		l := drawCells(&dice, max(0, len(kinds)+dice.below(5)-1))
		if len(l) > 0 && dice.below(8) == 0 {
			l[dice.below(len(l))] = drawCell(&dice)
		}
		checkFormatting(t, f, l...)
		_, code := impl.Format(f, l)
		codes[code]++
	}
	for code := impl.FmOk; code <= impl.FmLong; code++ {
		if codes[code] < 500 {
			t.Errorf("only %d formats give the code %d", codes[code], code)
		}
	}
}

// Promise 9, by the results of the functions alone.
func TestFormatsNeedAsManyValuesAsConversions(t *testing.T) {
	dice := treeMaker(99)
	printed := 0
	for range 20000 {
		f := drawFormat(&dice)
		n, ok := impl.Places(f)
		if len(impl.PlaceKinds(f)) != n || !ok && n != 0 {
			t.Fatalf("%q has %d places, but the kinds %q", f, n, impl.PlaceKinds(f))
		}
		l := drawCells(&dice, n+3)
		out, code := impl.Format(f, l[:n])
		if (code == impl.FmBad) != !ok || code == impl.FmShort || code != impl.FmOk && out != "" {
			t.Fatalf("%q with %d values gives %q, %d", f, n, out, code)
		}
		for more := 1; more <= 3; more++ {
			if again, same := impl.Format(f, l[:n+more]); again != out || same != code {
				t.Fatalf("%q with %d surplus values gives %q, %d; want %q, %d", f, more, again, same, out, code)
			}
		}
		for fewer := range n {
			if none, short := impl.Format(f, l[:fewer]); none != "" || short != impl.FmShort {
				t.Fatalf("%q with %d values of %d gives %q, %d", f, fewer, n, none, short)
			}
		}
		if code != impl.FmOk {
			continue
		}
		printed++
		literal := percents.ReplaceAllStringFunc(f, func(s string) string { return strings.Repeat("%", strings.Count(s, "%")-1) })
		if len(out) < len(literal) || n == 0 && out != literal || len(out) > impl.MaxStr {
			t.Fatalf("%q gives %q, with %d literal bytes", f, out, len(literal))
		}
	}
	if printed < 8000 {
		t.Errorf("only %d results were printed", printed)
	}
}

func TestFormatsAreNew(t *testing.T) {
	for _, f := range []string{"abc", "%s", "%-5s", "a%%b", "%sabc", "abc%s", long(500), "%d%s", "%s%d%s"} {
		for _, s := range []string{"value", "12345678", long(480)} {
			l := cells(cellStr(s), 3)
			out, _ := impl.Format(f, l)
			if sharesBytes(out, f) || sharesBytes(out, s) {
				t.Errorf("Format(%.60q) of %.60q shares their bytes", f, s)
			}
			if sharesBytes(impl.PlaceKinds(f), f) {
				t.Errorf("PlaceKinds(%.60q) shares its bytes", f)
			}
		}
	}
}

// A list keeps all its values and those behind them.
func TestValuesOfAFormatAreNotModified(t *testing.T) {
	whole := append(goodCells(), badCells()...)
	kept := slices.Clone(whole)
	for n := range whole {
		for _, f := range []string{"", "%d%s%%", "%9d%-9s", "%q", strings.Repeat("%s", 250), strings.Repeat("%99d", 6), strings.Repeat("%d", 20)} {
			for _, l := range [][]impl.Cell{whole[:n], whole[n:], whole[n : n+(len(whole)-n)/2]} {
				checkFormatting(t, f, l...)
			}
		}
	}
	if !slices.Equal(whole, kept) {
		t.Error("Format has changed a list")
	}
}

func TestFormatOfLongArguments(t *testing.T) {
	const size = 1 << 22
	soon(t, "long arguments", func() {
		for _, unit := range []string{"x", "%", "%d", "%%", "%s ", "%-", "7", "%7", "\xff"} {
			checkBad(t, strings.Repeat(unit, size))
			checkBad(t, "%"+strings.Repeat(unit, size)+"d")
			checkBad(t, "%d"+strings.Repeat(unit, size))
		}
		many := cells(cellStr(long(500)), size)
		checkFormat(t, "%s", long(500), many...)
		checkFormat(t, "", "", many...)
		checkNoFormat(t, "%s%s", impl.FmLong, many...)
		checkNoFormat(t, "%", impl.FmBad, many...)
		many[size-1] = impl.Cell{Tag: math.MaxInt}
		checkNoFormat(t, "%s", impl.FmBad, many...)
		checkNoFormat(t, "", impl.FmBad, many...)
		for tag := -1; tag <= 4; tag++ {
			checkNoFormat(t, "%s", impl.FmBad, impl.Cell{Tag: tag, S: strings.Repeat("1", size)})
			checkNoFormat(t, "%d", impl.FmBad, impl.Cell{Tag: tag, N: math.MinInt, S: strings.Repeat("x", size)})
		}
	})
}
