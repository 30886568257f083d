package tests

import (
	"math"
	"slices"
	"strconv"
	"strings"
	"testing"

	"loop.example/g00700/impl"
)

// What follows says in other words what chapter 8 says.

func wantLines(s string) []string {
	if len(s) > impl.MaxInput {
		return nil
	}
	var l []string
	line := ""
	for i := range len(s) {
		if s[i] == 10 {
			l = append(l, line)
			line = ""
		} else {
			line += s[i : i+1]
		}
	}
	if line != "" {
		l = append(l, line)
	}
	return l
}

func wantFields(s string) []string {
	if len(s) > impl.MaxStr {
		return nil
	}
	blanks := strings.NewReplacer("\t", " ", "\n", " ").Replace(s)
	l := slices.DeleteFunc(strings.Split(blanks, " "), func(part string) bool { return part == "" })
	return l[:min(len(l), impl.MaxFields)]
}

func wantSplitBy(s, sep string) []string {
	if len(s) > impl.MaxStr || s == "" {
		return nil
	}
	if sep == " " {
		return wantFields(s)
	}
	if sep == "" {
		return []string{s}
	}
	l := []string{""}
	for i := 0; i < len(s); {
		if strings.HasPrefix(s[i:], sep) {
			l = append(l, "")
			i += len(sep)
		} else {
			l[len(l)-1] += s[i : i+1]
			i++
		}
	}
	return l[:min(len(l), impl.MaxFields)]
}

// wantSize is the number of bytes of the strings and the blanks between them.
func wantSize(l []string) int {
	size := max(0, len(l)-1)
	for _, s := range l {
		size += len(s)
	}
	return size
}

func wantJoin(l []string) string {
	if len(l) > impl.MaxFields || wantSize(l) > impl.MaxStr {
		return ""
	}
	all := ""
	for i, s := range l {
		if i > 0 {
			all += " "
		}
		all += s
	}
	return all
}

func wantPut(l []string, i int, s string) ([]string, bool) {
	if i < 1 || i > impl.MaxFields || len(l) > impl.MaxFields {
		return nil, false
	}
	var put []string
	for k := 1; k <= len(l) || k <= i; k++ {
		switch {
		case k == i:
			put = append(put, s)
		case k <= len(l):
			put = append(put, l[k-1])
		default:
			put = append(put, "")
		}
	}
	if wantSize(put) > impl.MaxStr {
		return nil, false
	}
	return put, true
}

// brief is a list for messages, without the whole of a long one.
func brief(l []string) string {
	all := strconv.Itoa(len(l)) + ":"
	for i, s := range l {
		if i == 12 {
			return all + " .."
		}
		if len(s) > 30 {
			s = s[:30] + ".."
		}
		all += " " + strconv.Quote(s)
	}
	return all
}

func checkStrings(t *testing.T, what string, got, want []string) {
	t.Helper()
	if !slices.Equal(got, want) {
		t.Errorf("%s = %s; want %s", what, brief(got), brief(want))
	}
}

func checkLines(t *testing.T, s string, want ...string) {
	t.Helper()
	checkStrings(t, "Lines of "+strconv.Itoa(len(s))+" bytes "+brief([]string{s}), impl.Lines(s), want)
}

func checkFields(t *testing.T, s string, want ...string) {
	t.Helper()
	checkStrings(t, "Fields of "+strconv.Itoa(len(s))+" bytes "+brief([]string{s}), impl.Fields(s), want)
	checkStrings(t, "SplitBy, by a blank, of "+strconv.Itoa(len(s))+" bytes "+brief([]string{s}), impl.SplitBy(s, " "), want)
}

func checkSplit(t *testing.T, s, sep string, want ...string) {
	t.Helper()
	checkStrings(t, "SplitBy of "+strconv.Itoa(len(s))+" and "+strconv.Itoa(len(sep))+" bytes "+brief([]string{s, sep}), impl.SplitBy(s, sep), want)
}

func checkJoin(t *testing.T, l []string, want string) {
	t.Helper()
	if got := impl.JoinFields(l); got != want {
		t.Errorf("JoinFields of %s = %.60q, %d bytes; want %.60q, %d", brief(l), got, len(got), want, len(want))
	}
}

func checkPut(t *testing.T, l []string, i int, s string, want ...string) {
	t.Helper()
	got, ok := impl.PutField(l, i, s)
	if !ok || !slices.Equal(got, want) {
		t.Errorf("PutField(%s, %d, %.60q) = %s, %v; want %s", brief(l), i, s, brief(got), ok, brief(want))
	}
}

func checkNoPut(t *testing.T, l []string, i int, s string) {
	t.Helper()
	if got, ok := impl.PutField(l, i, s); ok || len(got) > 0 {
		t.Errorf("PutField(%s, %d, %.60q) = %s, %v; want none", brief(l), i, s, brief(got), ok)
	}
}

// checkRecord compares Lines, Fields and SplitBy with what they should be.
func checkRecord(t *testing.T, s, sep string) {
	t.Helper()
	checkLines(t, s, wantLines(s)...)
	checkFields(t, s, wantFields(s)...)
	checkSplit(t, s, sep, wantSplitBy(s, sep)...)
}

// checkList compares JoinFields and PutField with what they should be.
func checkList(t *testing.T, l []string, i int, s string) {
	t.Helper()
	checkJoin(t, l, wantJoin(l))
	if want, ok := wantPut(l, i, s); ok {
		checkPut(t, l, i, s, want...)
	} else {
		checkNoPut(t, l, i, s)
	}
}

func times(s string, n int) []string { return slices.Repeat([]string{s}, n) }

func long(n int) string { return strings.Repeat("x", n) }

func TestRecordConstants(t *testing.T) {
	if impl.MaxInput != 3000 || impl.MaxFields != 50 {
		t.Error("MaxInput or MaxFields has another value")
	}
}

func TestLines(t *testing.T) {
	checkLines(t, "")
	// Newlines alone.
	checkLines(t, "\n", "")
	checkLines(t, "\n\n", "", "")
	checkLines(t, "\n\n\n", "", "", "")
	// With and without a last newline.
	checkLines(t, "a", "a")
	checkLines(t, "a\n", "a")
	checkLines(t, "a\nb", "a", "b")
	checkLines(t, "a\nb\n", "a", "b")
	checkLines(t, "ab\ncd\nef", "ab", "cd", "ef")
	// Empty lines.
	checkLines(t, "\na", "", "a")
	checkLines(t, "a\n\n", "a", "")
	checkLines(t, "a\n\nb", "a", "", "b")
	checkLines(t, "a\n\n\nb\n", "a", "", "", "b")
	checkLines(t, "\n\na\n\n", "", "", "a", "")
	// Other bytes end no line, and none is removed.
	checkLines(t, "a\r\nb\r\n", "a\r", "b\r")
	checkLines(t, "a\rb", "a\rb")
	checkLines(t, "\r", "\r")
	checkLines(t, "\n\r", "", "\r")
	checkLines(t, "a\x00b\n\x00", "a\x00b", "\x00")
	checkLines(t, "\x00\n", "\x00")
	checkLines(t, " a \n\t\n ", " a ", "\t", " ")
	checkLines(t, "é\n\xff\n\x80\xc3\nA\xe2\x80\xa8B\x85", "é", "\xff", "\x80\xc3", "A\xe2\x80\xa8B\x85")
	checkLines(t, "\xc3\n\xe2\x80\n\xf0", "\xc3", "\xe2\x80", "\xf0")
	checkLines(t, "a\v\fb\\nc", "a\v\fb\\nc")
	checkLines(t, "\xef\xbb\xbfa\n", "\xef\xbb\xbfa")
}

func TestLinesOfEachByte(t *testing.T) {
	for b := range 256 {
		c := string([]byte{byte(b)})
		if b == 10 {
			continue
		}
		checkLines(t, c, c)
		checkLines(t, c+"\n", c)
		checkLines(t, "\n"+c, "", c)
		checkLines(t, "a"+c+"b\n"+c+c+"\nc", "a"+c+"b", c+c, "c")
	}
}

func TestLinesLimit(t *testing.T) {
	for _, n := range []int{499, 500, 501, 2998, 2999, 3000} {
		checkLines(t, long(n), long(n))
		checkLines(t, long(n-1)+"\n", long(n-1))
		checkLines(t, "\n"+long(n-1), "", long(n-1))
		checkLines(t, strings.Repeat("\n", n), times("", n)...)
		checkLines(t, strings.Repeat("\n", n-1)+"a", append(times("", n-1), "a")...)
		checkLines(t, strings.Repeat("\xff", n), strings.Repeat("\xff", n))
		if n%2 == 0 {
			checkLines(t, strings.Repeat("a\n", n/2), times("a", n/2)...)
			checkLines(t, strings.Repeat("\na", n/2), append([]string{""}, times("a", n/2)...)...)
		}
	}
	for _, n := range []int{3001, 3002, 4000, 6000, 1 << 16, 1 << 22} {
		for _, unit := range []string{"x", "\n", "a\n", "\na", " ", "\xff"} {
			s := strings.Repeat(unit, n)
			checkLines(t, s)
			checkLines(t, s[:n])
		}
		checkLines(t, long(n-1)+"\n")
		checkLines(t, long(n-3000)+"\n"+long(2999))
	}
}

func TestFields(t *testing.T) {
	checkFields(t, "")
	checkFields(t, "a", "a")
	checkFields(t, "abc", "abc")
	// Each kind of whitespace, in front, behind and in between.
	for _, space := range []string{" ", "\t", "\n", "  ", "\t\t", "\n\n", " \t", "\t ", "\n ", " \n", "\t\n", " \t\n \t\n "} {
		checkFields(t, space)
		checkFields(t, space+"a", "a")
		checkFields(t, "a"+space, "a")
		checkFields(t, space+"a"+space, "a")
		checkFields(t, "a"+space+"b", "a", "b")
		checkFields(t, space+"ab"+space+"c"+space+"de"+space, "ab", "c", "de")
		checkFields(t, "é"+space+"\xff"+space+"\x80", "é", "\xff", "\x80")
	}
	checkFields(t, " a\t b ", "a", "b")
	checkFields(t, "a b\tc\nd", "a", "b", "c", "d")
	checkFields(t, "1 2.5 -3", "1", "2.5", "-3")
	// Signs are bytes like others.
	checkFields(t, "a,b; \"c d\"", "a,b;", "\"c", "d\"")
	checkFields(t, `a\tb\ c`, `a\tb\`, "c")
	// What is whitespace elsewhere, and bytes that are no UTF-8.
	checkFields(t, "a\vb\fc\rd", "a\vb\fc\rd")
	checkFields(t, "\r", "\r")
	checkFields(t, "a \r\n", "a", "\r")
	checkFields(t, "\x00 \x00\x00", "\x00", "\x00\x00")
	checkFields(t, "a\u0085b\u00a0c\u2028d\u2003e\u3000f", "a\u0085b\u00a0c\u2028d\u2003e\u3000f")
	checkFields(t, "\x85 \xa0\t\x85\xa0", "\x85", "\xa0", "\x85\xa0")
	checkFields(t, "\xc3 \xa9", "\xc3", "\xa9")
	checkFields(t, "\xe2\x80 \xa8\t\xf0\x9f\n\x98\x80", "\xe2\x80", "\xa8", "\xf0\x9f", "\x98\x80")
	checkFields(t, "\xc0\xa0 \xc0\x89 \xe0\x80\xa0", "\xc0\xa0", "\xc0\x89", "\xe0\x80\xa0")
	checkFields(t, "\xed\xa0\x80 \xf4\x90\x80\x80\t\ufffd\n\ufeffa", "\xed\xa0\x80", "\xf4\x90\x80\x80", "\ufffd", "\ufeffa")
}

func TestFieldsOfEachByte(t *testing.T) {
	for b := range 256 {
		c := string([]byte{byte(b)})
		if b == 32 || b == 9 || b == 10 {
			checkFields(t, c)
			checkFields(t, c+"a"+c+c+"b"+c, "a", "b")
			checkFields(t, "\xc3"+c+"\xe2\x80"+c+"\x80", "\xc3", "\xe2\x80", "\x80")
			continue
		}
		checkFields(t, c, c)
		checkFields(t, c+" "+c, c, c)
		checkFields(t, "a"+c+"b\t"+c+c+"\nc"+c, "a"+c+"b", c+c, "c"+c)
		checkFields(t, " "+c+"\n"+c+"\t", c, c)
	}
}

func TestFieldsLimits(t *testing.T) {
	for _, n := range []int{1, 2, 48, 49, 50, 51, 52, 100, 166} {
		most := min(n, 50)
		checkFields(t, strings.Repeat("a ", n), times("a", most)...)
		checkFields(t, strings.Repeat("\tb", n), times("b", most)...)
		checkFields(t, strings.Repeat("\nc ", n), times("c", most)...)
		checkFields(t, strings.Repeat("a ", n)+"z", append(times("a", most), "z")[:min(n+1, 50)]...)
		checkFields(t, "z\n"+strings.Repeat("a ", n), append([]string{"z"}, times("a", n)...)[:min(n+1, 50)]...)
	}
	for _, n := range []int{498, 499, 500} {
		checkFields(t, long(n), long(n))
		checkFields(t, " "+long(n-2)+"\n", long(n-2))
		checkFields(t, strings.Repeat(" ", n))
		checkFields(t, strings.Repeat("\t", n-1)+"a", "a")
		checkFields(t, "a"+strings.Repeat("\n", n-1), "a")
		checkFields(t, long(n-3)+" b\t", long(n-3), "b")
		checkFields(t, strings.Repeat("\xff", n), strings.Repeat("\xff", n))
		checkFields(t, strings.Repeat("a ", n)[:n], times("a", 50)...)
	}
	for _, n := range []int{501, 502, 1000, 3000, 1 << 16, 1 << 22} {
		for _, unit := range []string{"x", " ", "a ", " a", "\n", "\xff", "é"} {
			checkFields(t, strings.Repeat(unit, n))
			checkFields(t, strings.Repeat(unit, n)[:n])
		}
		checkFields(t, "a "+long(n-2))
		checkFields(t, "a"+strings.Repeat(" ", n-1))
		checkFields(t, strings.Repeat(" ", n-1)+"a")
	}
}

func TestSplitByWhitespace(t *testing.T) {
	// Only a single blank stands for all whitespace.
	checkSplit(t, " a ", " ", "a")
	checkSplit(t, "\ta\n b\t\tc", " ", "a", "b", "c")
	checkSplit(t, " \t\n", " ")
	checkSplit(t, " a ", "  ", " a ")
	checkSplit(t, "  ", "  ", "", "")
	checkSplit(t, "a  b", "  ", "a", "b")
	checkSplit(t, "a   b    c", "  ", "a", " b", "", "c")
	checkSplit(t, "a\t\tb c", "\t", "a", "", "b c")
	checkSplit(t, "\t", "\t", "", "")
	checkSplit(t, "a b\tc\n", "\n", "a b\tc", "")
	checkSplit(t, "a \tb \t", " \t", "a", "b", "")
	checkSplit(t, " a b", "\n", " a b")
	checkSplit(t, " a b", " b", " a", "")
	checkSplit(t, "a b", "\x00", "a b")
	checkSplit(t, "a\u00a0b", "\u00a0", "a", "b")
}

func TestSplitBy(t *testing.T) {
	checkSplit(t, "a::b:", ":", "a", "", "b", "")
	checkSplit(t, "a:b", ":", "a", "b")
	checkSplit(t, "ab", ":", "ab")
	// Nothing, and nothing as the separator.
	for _, sep := range []string{"", " ", "  ", ":", "\n", "::", "\x00", long(501)} {
		checkSplit(t, "", sep)
	}
	checkSplit(t, "ab", "", "ab")
	checkSplit(t, " a b ", "", " a b ")
	checkSplit(t, " ", "", " ")
	checkSplit(t, "\xff\n", "", "\xff\n")
	checkSplit(t, "éa", "", "éa")
	// Separators at the ends and next to each other.
	checkSplit(t, ":", ":", "", "")
	checkSplit(t, "::", ":", "", "", "")
	checkSplit(t, ":a", ":", "", "a")
	checkSplit(t, "a:", ":", "a", "")
	checkSplit(t, ":a::b:", ":", "", "a", "", "b", "")
	checkSplit(t, "::a", ":", "", "", "a")
	checkSplit(t, "<>a<><>b<>", "<>", "", "a", "", "b", "")
	// Separators that overlap themselves.
	checkSplit(t, "aaa", "aa", "", "a")
	checkSplit(t, "aaaa", "aa", "", "", "")
	checkSplit(t, "aaaaa", "aa", "", "", "a")
	checkSplit(t, "baaab", "aa", "b", "ab")
	checkSplit(t, "ababa", "aba", "", "ba")
	checkSplit(t, "abababa", "aba", "", "b", "")
	checkSplit(t, "xabaabay", "aba", "x", "", "y")
	checkSplit(t, "aabaabaab", "aabaab", "", "aab")
	checkSplit(t, "aaab", "aab", "a", "")
	checkSplit(t, "aaaaaaab", "aaab", "aaaa", "")
	checkSplit(t, "abacababacabad", "abacabad", "abacab", "")
	// The string itself, a longer one, and others that do not occur.
	checkSplit(t, "abc", "abc", "", "")
	checkSplit(t, "abc", "abcd", "abc")
	checkSplit(t, "abc", "xabc", "abc")
	checkSplit(t, "a", "aa", "a")
	checkSplit(t, "a:", "::", "a:")
	checkSplit(t, "aBa", "b", "aBa")
	checkSplit(t, "a.b*c", ".", "a", "b*c")
	checkSplit(t, "a.b", "[.]", "a.b")
	// Any bytes.
	checkSplit(t, "a\x00b\x00", "\x00", "a", "b", "")
	checkSplit(t, "é", "\xa9", "\xc3", "")
	checkSplit(t, "éaé", "é", "", "a", "")
	checkSplit(t, "\xff\xfe", "\xff", "", "\xfe")
	checkSplit(t, "\xffa", "\ufffd", "\xffa")
	checkSplit(t, "a\ufffdb", "\xff", "a\ufffdb")
	checkSplit(t, "a\r\nb\nc", "\r\n", "a", "b\nc")
}

func TestSplitByEachByte(t *testing.T) {
	for b := range 256 {
		c := string([]byte{byte(b)})
		if b == ' ' {
			checkSplit(t, c+"<"+c+c+">"+c, c, "<", ">")
			continue
		}
		checkSplit(t, c+"<"+c+c+">"+c, c, wantSplitBy(c+"<"+c+c+">"+c, c)...)
		checkSplit(t, c+c+c, c, "", "", "", "")
		checkSplit(t, c+c+c, c+c, "", c)
		checkSplit(t, "", c)
		checkSplit(t, c, "", c)
	}
}

func TestSplitByLimits(t *testing.T) {
	for _, sep := range []string{":", "\n", "::", "\xff", " :", "=-=", "       "} {
		for _, n := range []int{1, 2, 48, 49, 50, 51, 52, 62} {
			most := min(n, 50)
			s := strings.Repeat("a"+sep, n)
			parts := append(times("a", n), "")
			checkSplit(t, s, sep, parts[:min(n+1, 50)]...)
			checkSplit(t, s[:len(s)-len(sep)], sep, times("a", most)...)
			checkSplit(t, strings.Repeat(sep, n), sep, times("", min(n+1, 50))...)
			checkSplit(t, s+"z", sep, append(times("a", n), "z")[:min(n+1, 50)]...)
		}
	}
	for _, n := range []int{499, 500} {
		for _, sep := range []string{":", "::", "x:", long(n), long(n) + "x", "\x00", strings.Repeat(":", 1<<20), long(1 << 20)} {
			for _, s := range []string{long(n), ":" + long(n-1), long(n-1) + ":", strings.Repeat(":", n), strings.Repeat("x:", n)[:n], strings.Repeat("x", n-2) + "::"} {
				checkSplit(t, s, sep, wantSplitBy(s, sep)...)
			}
		}
		checkSplit(t, long(n), "", long(n))
		checkSplit(t, strings.Repeat(" ", n), "", strings.Repeat(" ", n))
		checkSplit(t, long(n), long(n), "", "")
		checkSplit(t, "a"+long(n-1), long(n-1), "a", "")
		checkSplit(t, strings.Repeat(":", n), ":", times("", 50)...)
	}
	for _, n := range []int{501, 502, 1000, 1 << 16, 1 << 22} {
		for _, sep := range []string{"", " ", "  ", ":", "::", "x", "\n", long(n), long(n + 1), long(501)} {
			for _, unit := range []string{"x", ":", " ", "x:", "\n", "\xff"} {
				checkSplit(t, strings.Repeat(unit, n)[:n], sep)
			}
		}
	}
}

func TestJoinFields(t *testing.T) {
	for _, x := range []struct {
		want string
		l    []string
	}{
		{"", nil}, {"", []string{}}, {"", []string{""}}, {"a", []string{"a"}}, {"ab cd", []string{"ab", "cd"}}, {"a b c", []string{"a", "b", "c"}},
		{" ", []string{"", ""}}, {"  ", []string{"", "", ""}}, {" a", []string{"", "a"}}, {"a ", []string{"a", ""}}, {"a  b", []string{"a", "", "b"}}, {"  a  ", []string{"", "", "a", "", ""}},
		// Nothing is done to blanks and other bytes.
		{" ", []string{" "}}, {"   ", []string{" ", " "}}, {" a  b c ", []string{" a ", "b c", ""}}, {"\t \n", []string{"\t", "\n"}}, {"a\nb c\r", []string{"a\nb", "c\r"}},
		{"\x00 \xff é", []string{"\x00", "\xff", "é"}}, {"\xc3 \xa9", []string{"\xc3", "\xa9"}}, {"\ufffd \x80", []string{"\ufffd", "\x80"}},
	} {
		checkJoin(t, x.l, x.want)
	}
	for b := range 256 {
		c := string([]byte{byte(b)})
		checkJoin(t, []string{c}, c)
		checkJoin(t, []string{c, c + "a", "a" + c}, c+" "+c+"a a"+c)
	}
}

func TestJoinFieldsLimits(t *testing.T) {
	for _, n := range []int{48, 49, 50} {
		checkJoin(t, times("", n), strings.Repeat(" ", n-1))
		checkJoin(t, times("a", n), strings.Repeat("a ", n)[:2*n-1])
		checkJoin(t, append([]string{"z"}, times("", n-1)...), "z"+strings.Repeat(" ", n-1))
		checkJoin(t, append(times("", n-1), "z"), strings.Repeat(" ", n-1)+"z")
	}
	for _, n := range []int{51, 52, 100, 500, 501, 502, 1 << 16, 1 << 20} {
		checkJoin(t, times("", n), "")
		checkJoin(t, times("a", n), "")
		checkJoin(t, append([]string{"z"}, times("", n-1)...), "")
		checkJoin(t, append(times("", n-1), "z"), "")
		checkJoin(t, times(long(1<<20), n), "")
	}
	for size := 497; size <= 503; size++ {
		for _, l := range listsOfSize(size) {
			want := strings.Join(l, " ")
			if len(want) != size {
				t.Fatalf("%s has %d bytes; want %d", brief(l), len(want), size)
			}
			if size > 500 {
				want = ""
			}
			checkJoin(t, l, want)
		}
	}
	for _, n := range []int{501, 1000, 1 << 22} {
		checkJoin(t, []string{long(n)}, "")
		checkJoin(t, []string{"", long(n)}, "")
		checkJoin(t, []string{long(n), ""}, "")
		checkJoin(t, times(long(n), 2), "")
		checkJoin(t, times(long(n), 50), "")
	}
}

// listsOfSize returns lists whose joined form has size bytes.
func listsOfSize(size int) [][]string {
	var lists [][]string
	for _, n := range []int{1, 2, 3, 10, 49, 50} {
		rest := size - (n - 1)
		lists = append(lists, append([]string{long(rest)}, times("", n-1)...), append(times("", n-1), long(rest)))
		even := times(long(rest/n), n)
		even[n/2] += long(rest % n)
		lists = append(lists, even)
		if n > 2 {
			blanks := append(times(" ", n-2), long(rest-(n-2)-1), "z")
			lists = append(lists, blanks)
		}
	}
	return lists
}

func TestPutField(t *testing.T) {
	for _, x := range []struct {
		l    []string
		i    int
		s    string
		want []string
	}{
		{[]string{"a"}, 3, "c", []string{"a", "", "c"}},
		// The first and the last string.
		{[]string{"a"}, 1, "b", []string{"b"}}, {[]string{"a", "b", "c"}, 1, "z", []string{"z", "b", "c"}}, {[]string{"a", "b", "c"}, 2, "z", []string{"a", "z", "c"}}, {[]string{"a", "b", "c"}, 3, "z", []string{"a", "b", "z"}},
		// Behind the last one.
		{[]string{"a", "b"}, 3, "z", []string{"a", "b", "z"}}, {[]string{"a", "b"}, 4, "z", []string{"a", "b", "", "z"}}, {[]string{"a", "b"}, 7, "z", []string{"a", "b", "", "", "", "", "z"}},
		{nil, 1, "z", []string{"z"}}, {[]string{}, 1, "z", []string{"z"}}, {nil, 2, "z", []string{"", "z"}}, {nil, 5, "z", []string{"", "", "", "", "z"}},
		// Empty strings, and strings with blanks.
		{nil, 1, "", []string{""}}, {nil, 3, "", []string{"", "", ""}}, {[]string{"a", "b"}, 2, "", []string{"a", ""}}, {[]string{"a"}, 2, "", []string{"a", ""}}, {[]string{"a"}, 4, "", []string{"a", "", "", ""}},
		{[]string{"", ""}, 1, "a", []string{"a", ""}}, {[]string{"a", "b"}, 1, " x  y ", []string{" x  y ", "b"}}, {[]string{" ", "a b"}, 3, "\t", []string{" ", "a b", "\t"}}, {[]string{"\xff", "é"}, 1, "\x00", []string{"\x00", "é"}},
		{[]string{"a", "b"}, 2, "b", []string{"a", "b"}},
	} {
		checkPut(t, x.l, x.i, x.s, x.want...)
	}
}

func TestPutFieldIndices(t *testing.T) {
	lists := [][]string{nil, {"a"}, {"a", "b"}, times("a", 49), times("", 50), times("a", 50)}
	for _, l := range lists {
		for _, i := range []int{0, -1, -2, -49, -50, -51, 51, 52, 100, 256, 1 << 16, 1<<32 + 1, 1 << 40, math.MinInt, math.MinInt + 1, math.MinInt + 50, math.MaxInt, math.MaxInt - 1, -math.MaxInt, impl.MaxDec, -impl.MaxDec} {
			checkNoPut(t, l, i, "z")
			checkNoPut(t, l, i, "")
		}
		for i := 1; i <= 50; i++ {
			want := append(slices.Clone(l), times("", max(0, i-len(l)))...)
			want[i-1] = "z"
			checkPut(t, l, i, "z", want...)
			want[i-1] = ""
			checkPut(t, l, i, "", want...)
		}
	}
	for _, n := range []int{51, 52, 100, 1 << 20} {
		for _, i := range []int{1, 2, 49, 50, 51, n, n + 1, 0, -1, math.MaxInt, math.MinInt} {
			checkNoPut(t, times("", n), i, "z")
			checkNoPut(t, times("a", n), i, "")
			checkNoPut(t, times(long(1<<20), n), i, "z")
		}
	}
}

func TestPutFieldLimits(t *testing.T) {
	for size := 497; size <= 503; size++ {
		for _, want := range listsOfSize(size) {
			for i, s := range want {
				for _, before := range []string{"", s, "a", long(500), long(501), long(1 << 20)} {
					l := slices.Clone(want)
					l[i] = before
					checkList(t, l, i+1, s)
					if size > 500 {
						checkNoPut(t, l, i+1, s)
					} else {
						checkPut(t, l, i+1, s, want...)
					}
				}
			}
		}
	}
	// Too long only because of the empty strings in between: without them and their
	// blanks the joined form has at most 500 bytes.
	for i := 2; i <= 50; i++ {
		between := times("", i-2)
		for size := 498; size <= 500; size++ {
			rest := long(size - (i - 1))
			checkPut(t, nil, i, rest, append(append([]string{""}, between...), rest)...)
			checkPut(t, []string{rest}, i, "", append(append([]string{rest}, between...), "")...)
			checkPut(t, []string{"ab"}, i, rest[2:], append(append([]string{"ab"}, between...), rest[2:])...)
		}
		checkNoPut(t, nil, i, long(501-(i-1)))
		for size := 501; size <= 500+len(between); size++ {
			rest := long(size - (i - 1))
			checkNoPut(t, nil, i, rest)
			checkNoPut(t, []string{rest}, i, "")
			checkNoPut(t, []string{"ab"}, i, rest[2:])
			checkNoPut(t, append([]string{rest}, between[1:]...), i, "")
		}
	}
	// Another string is too long already, also by itself.
	for _, n := range []int{501, 502, 1000, 1 << 22} {
		checkNoPut(t, []string{long(n), "a"}, 2, "b")
		checkNoPut(t, []string{"a", long(n)}, 1, "")
		checkNoPut(t, []string{long(n)}, 2, "")
		checkNoPut(t, []string{"a"}, 1, long(n))
		checkNoPut(t, nil, 1, long(n))
		checkNoPut(t, times(long(n), 50), 50, "")
		checkPut(t, []string{"a", long(n)}, 2, "b", "a", "b")
		checkPut(t, []string{long(n)}, 1, "", "")
	}
}

// All strings over few bytes, by all short separators.
func TestAllShortRecords(t *testing.T) {
	seps := allStrings(" a\n", 2)
	for _, s := range allStrings(" a\n\xc3", 6) {
		for _, sep := range seps {
			checkSplit(t, s, sep, wantSplitBy(s, sep)...)
		}
		checkLines(t, s, wantLines(s)...)
		checkFields(t, s, wantFields(s)...)
	}
	seps = allStrings("ab", 5)
	for _, s := range allStrings("ab", 9) {
		for _, sep := range seps {
			checkSplit(t, s, sep, wantSplitBy(s, sep)...)
		}
	}
}

// drawText returns a string of units.
func drawText(dice *treeMaker, units []string, size int) string {
	var all strings.Builder
	for range dice.below(size) {
		all.WriteString(units[dice.below(len(units))])
	}
	return all.String()
}

// drawSize is mostly small, and sometimes near a limit or far beyond.
func drawSize(dice *treeMaker, limit int) int {
	switch dice.below(5) {
	case 0:
		return limit + 3
	case 1:
		return 2 * limit
	}
	return 40
}

var units = []string{"a", "b", "ab", " ", "\t", "\n", ":", "::", "é", "\xff", "\xc3", "\x80", "\x00", "\r", "\v", "\f", "\u0085", "\u00a0", "\u2028", "7", "-1.5", "ababa"}

// drawList returns a list of strings; few of them are long.
func drawList(dice *treeMaker, units []string) []string {
	most := []int{3, 8, 49, 52, 60}[dice.below(5)]
	var l []string
	for range dice.below(most) {
		size := []int{1, 3, 8, 20}[dice.below(4)]
		if dice.below(60) == 0 {
			size = 500
		}
		l = append(l, drawText(dice, units, size))
	}
	return l
}

func TestDrawnRecords(t *testing.T) {
	dice := treeMaker(8)
	for range 6000 {
		few := units[:2+dice.below(len(units)-1)]
		checkRecord(t, drawText(&dice, few, drawSize(&dice, impl.MaxStr)), drawText(&dice, few, 4))
	}
	for range 300 {
		s := drawText(&dice, units[3:], drawSize(&dice, impl.MaxInput))
		checkLines(t, s, wantLines(s)...)
	}
	for range 20000 {
		l := drawList(&dice, units)
		checkList(t, l, dice.below(56)-2, drawText(&dice, units, drawSize(&dice, 100)))
		if len(l) > 0 {
			checkList(t, l, 1+dice.below(len(l)), drawText(&dice, units, 4))
		}
	}
}

// Promise 8, by the results of the functions alone.

func TestInputsAreRecoveredFromTheirLines(t *testing.T) {
	dice := treeMaker(88)
	for range 20000 {
		s := drawText(&dice, units, 200)
		all := ""
		for _, line := range impl.Lines(s) {
			if strings.Contains(line, "\n") {
				t.Fatalf("the line %q has a newline", line)
			}
			all += line + "\n"
		}
		if all != s && all != s+"\n" || s != "" && strings.HasSuffix(s, "\n") != (all == s) || s == "" && all != "" {
			t.Fatalf("%q has the lines of %q", s, all)
		}
	}
}

func TestFieldsAreRecoveredFromTheirJoin(t *testing.T) {
	dice := treeMaker(888)
	for range 20000 {
		s := drawText(&dice, units, 250)
		fields := impl.Fields(s)
		for _, field := range fields {
			if field == "" || strings.ContainsAny(field, " \t\n") {
				t.Fatalf("%q has the field %q", s, field)
			}
		}
		// A joined form is never longer than the line.
		joined := impl.JoinFields(fields)
		checkFields(t, joined, fields...)
		if len(fields) > 0 && joined == "" || len(joined) > len(s) {
			t.Fatalf("%q is joined from %s", joined, brief(fields))
		}
	}
	for range 20000 {
		l := slices.DeleteFunc(drawList(&dice, []string{"a", "é", "\xff", "7", "\x00", "\r", ":"}), func(s string) bool { return s == "" })
		if joined := impl.JoinFields(l); joined != "" {
			checkFields(t, joined, l...)
		}
	}
}

func TestStringsAreRecoveredFromTheirParts(t *testing.T) {
	dice := treeMaker(8888)
	whole := 0
	for range 40000 {
		few := units[:2+dice.below(len(units)-1)]
		s, sep := drawText(&dice, few, 80), drawText(&dice, few, 4)
		l := impl.SplitBy(s, sep)
		if sep == " " || len(s) > impl.MaxStr {
			continue
		}
		all := strings.Join(l, sep)
		if len(l) < impl.MaxFields {
			whole++
		} else if strings.HasPrefix(s, all+sep) {
			all = s
		}
		if all != s {
			t.Fatalf("%q is divided by %q into %s", s, sep, brief(l))
		}
		for _, part := range l {
			if sep != "" && strings.Contains(part, sep) {
				t.Fatalf("%q is divided by %q into %s", s, sep, brief(l))
			}
		}
	}
	if whole < 20000 {
		t.Errorf("only %d strings were divided into few parts", whole)
	}
}

func TestFieldsThatAreSetAreThere(t *testing.T) {
	dice := treeMaker(88888)
	set := 0
	for range 40000 {
		l, s, i := drawList(&dice, units), drawText(&dice, units, 10), dice.below(56)-2
		put, ok := impl.PutField(l, i, s)
		if !ok {
			if put != nil {
				t.Fatalf("PutField returns %s and false", brief(put))
			}
			continue
		}
		set++
		if len(put) != max(len(l), i) || put[i-1] != s {
			t.Fatalf("PutField(%s, %d, %q) = %s", brief(l), i, s, brief(put))
		}
		for k, other := range put {
			if k != i-1 && (k < len(l) && other != l[k] || k >= len(l) && other != "") {
				t.Fatalf("PutField(%s, %d, %q) = %s", brief(l), i, s, brief(put))
			}
		}
		if joined := impl.JoinFields(put); joined != strings.Join(put, " ") {
			t.Fatalf("%s cannot be joined", brief(put))
		}
		again, ok := impl.PutField(put, i, s)
		if !ok || !slices.Equal(again, put) {
			t.Fatalf("%s becomes %s", brief(put), brief(again))
		}
	}
	if set < 10000 {
		t.Errorf("only %d fields were set", set)
	}
}

func TestRecordsAreNew(t *testing.T) {
	for _, s := range []string{"one two\nthree four\n", "single", long(500), " a b\n\tccc ", strings.Repeat("many ", 100)} {
		results := [][]string{impl.Lines(s), impl.Fields(s), impl.SplitBy(s, " "), impl.SplitBy(s, ""), impl.SplitBy(s, "o"), impl.SplitBy(s, "absent"), impl.SplitBy(s, "a")}
		for i, l := range results {
			wanted := slices.Clone(l)
			for _, part := range l {
				if sharesBytes(part, s) {
					t.Errorf("result %d for %.60q shares the bytes of %.60q", i, s, part)
				}
			}
			clear(l[:cap(l)])
			again := [][]string{impl.Lines(s), impl.Fields(s), impl.SplitBy(s, " "), impl.SplitBy(s, ""), impl.SplitBy(s, "o"), impl.SplitBy(s, "absent"), impl.SplitBy(s, "a")}
			checkStrings(t, "result "+strconv.Itoa(i)+" after an earlier one was cleared", again[i], wanted)
		}
	}
	for _, l := range [][]string{{"alpha"}, {"alpha", "beta"}, {"", "beta"}, {long(400), " ", "x"}} {
		joined := impl.JoinFields(l)
		for i := 1; i <= len(l)+2; i++ {
			s := "gamma"
			put, _ := impl.PutField(l, i, s)
			for _, part := range put {
				if sharesBytes(part, s) || slices.ContainsFunc(l, func(old string) bool { return sharesBytes(part, old) }) {
					t.Errorf("PutField(%s, %d, %q) shares the bytes of %.60q", brief(l), i, s, part)
				}
			}
		}
		if joined == "" || slices.ContainsFunc(l, func(part string) bool { return sharesBytes(part, joined) }) {
			t.Errorf("JoinFields of %s shares their bytes", brief(l))
		}
	}
}

// A list with spare capacity keeps all its strings and those behind them, and
// nothing that is written to a result is seen in it.
func TestListsAreNotModified(t *testing.T) {
	for _, n := range []int{0, 1, 2, 3, 10, 49, 50, 51, 60} {
		for _, spare := range []int{0, 1, 2, 60} {
			whole := append(times("a", n), times("spare", spare)...)
			kept := slices.Clone(whole)
			l := whole[:n]
			for i := -1; i <= 62; i++ {
				for _, s := range []string{"z", "", long(300), long(501)} {
					put, ok := impl.PutField(l, i, s)
					joined := impl.JoinFields(l)
					if !slices.Equal(whole, kept) || joined != wantJoin(kept[:n]) {
						t.Fatalf("PutField at %d has changed %s to %s", i, brief(kept), brief(whole))
					}
					for k := range put[:cap(put)] {
						put[:cap(put)][k] = "written"
					}
					if !slices.Equal(whole, kept) {
						t.Fatalf("the result of PutField at %d is %s itself", i, brief(kept))
					}
					if again, same := impl.PutField(l, i, s); same != ok || slices.Contains(again, "written") {
						t.Fatalf("PutField at %d returns an earlier result: %s", i, brief(again))
					}
				}
			}
		}
	}
}

func TestRecordsOfLongStrings(t *testing.T) {
	const size = 1 << 22
	soon(t, "long strings", func() {
		for _, unit := range []string{"x", " ", "\n", "x ", ":", "\xff"} {
			s := strings.Repeat(unit, size)
			for _, sep := range []string{"", " ", ":", unit, s} {
				checkRecord(t, s, sep)
			}
			checkSplit(t, "x:x", s, wantSplitBy("x:x", s)...)
			for _, n := range []int{1, 50, 51, 1 << 20} {
				l := times(s, n)
				checkJoin(t, l, "")
				for _, i := range []int{1, n, n + 1, math.MaxInt, math.MinInt} {
					checkNoPut(t, l, i, s)
				}
			}
			checkNoPut(t, nil, 1, s)
		}
	})
}
