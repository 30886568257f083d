package tests

import (
	"fmt"
	"reflect"
	"regexp"
	"slices"
	"strings"
	"testing"
	"time"

	"loop.example/g00700/impl"
)

func reParsed(t *testing.T, pattern string) []impl.ReNode {
	t.Helper()
	l, ok := impl.ReParse(pattern)
	if !ok || !impl.ReOk(l) {
		t.Fatalf("ReParse(%q) = %v, %v", pattern, l, ok)
	}
	return l
}

func byteNode(b byte) impl.ReNode {
	return impl.ReNode{Kind: impl.ReSet, Set: string([]byte{b, b})}
}

func setNode(neg bool, set string) impl.ReNode {
	return impl.ReNode{Kind: impl.ReSet, Neg: neg, Set: set}
}

func kidsNode(kind int, kids ...int) impl.ReNode {
	return impl.ReNode{Kind: kind, Kids: kids}
}

func anyNode() impl.ReNode {
	return setNode(true, "")
}

// sameNodes takes an empty list of kids and nil for the same.
func sameNodes(a, b []impl.ReNode) bool {
	return slices.EqualFunc(a, b, func(x, y impl.ReNode) bool {
		return x.Kind == y.Kind && x.Neg == y.Neg && x.Set == y.Set && slices.Equal(x.Kids, y.Kids)
	})
}

// treeOf describes what is below node k, without the order of the nodes.
func treeOf(l []impl.ReNode, k int) string {
	text := fmt.Sprintf("%d %v %q(", l[k].Kind, l[k].Neg, l[k].Set)
	for _, kid := range l[k].Kids {
		text += treeOf(l, kid)
	}
	return text + ")"
}

// matchFrom returns the offsets at which a match of node k ends that starts at
// one of the offsets from. It follows the definitions word by word.
func matchFrom(l []impl.ReNode, k int, s string, from []bool) []bool {
	to := make([]bool, len(s)+1)
	n := l[k]
	switch n.Kind {
	case impl.ReSet:
		for i := range len(s) {
			in := false
			for p := 0; p < len(n.Set); p += 2 {
				in = in || n.Set[p] <= s[i] && s[i] <= n.Set[p+1]
			}
			to[i+1] = from[i] && in != n.Neg
		}
	case impl.ReBeg:
		to[0] = from[0]
	case impl.ReEnd:
		to[len(s)] = from[len(s)]
	case impl.ReSeq:
		to = from
		for _, kid := range n.Kids {
			to = matchFrom(l, kid, s, to)
		}
	case impl.ReAlt:
		for _, kid := range n.Kids {
			to = eitherOf(to, matchFrom(l, kid, s, from))
		}
	case impl.ReOpt:
		to = eitherOf(from, matchFrom(l, n.Kids[0], s, from))
	case impl.ReStar:
		to = closureFrom(l, n.Kids[0], s, from)
	case impl.RePlus:
		to = closureFrom(l, n.Kids[0], s, matchFrom(l, n.Kids[0], s, from))
	}
	return to
}

func closureFrom(l []impl.ReNode, k int, s string, from []bool) []bool {
	for {
		more := eitherOf(from, matchFrom(l, k, s, from))
		if slices.Equal(more, from) {
			return more
		}
		from = more
	}
}

func eitherOf(a, b []bool) []bool {
	c := slices.Clone(a)
	for i := range c {
		c[i] = c[i] || b[i]
	}
	return c
}

func wantEnds(l []impl.ReNode, s string, from int) []int {
	start := make([]bool, len(s)+1)
	start[from] = true
	var ends []int
	for end, is := range matchFrom(l, len(l)-1, s, start) {
		if is {
			ends = append(ends, end)
		}
	}
	return ends
}

// wantNext is the start and the end of the leftmost longest match from at on.
func wantNext(l []impl.ReNode, s string, at int) (int, int) {
	for ; at <= len(s); at++ {
		if ends := wantEnds(l, s, at); len(ends) > 0 {
			return at, ends[len(ends)-1]
		}
	}
	return -1, -1
}

func wantSub(l []impl.ReNode, s, by string) (string, int) {
	out, n, done := "", 0, 0
	for done <= len(s) {
		start, end := wantNext(l, s, done)
		if start < 0 {
			break
		}
		out += s[done:start] + by
		n++
		done = end
		if start == end {
			if end == len(s) {
				break
			}
			out += s[end : end+1]
			done++
		}
	}
	return out + s[min(done, len(s)):], n
}

// checkMatches compares every function that matches with the definitions.
func checkMatches(t *testing.T, l []impl.ReNode, s string) {
	t.Helper()
	for from := range len(s) + 1 {
		if got, want := impl.ReEnds(l, s, from), wantEnds(l, s, from); !slices.Equal(got, want) {
			t.Fatalf("%q: ReEnds(%q, %d) = %v; want %v", impl.ReText(l), s, from, got, want)
		}
	}
	start, end := wantNext(l, s, 0)
	if at, n := impl.ReFind(l, s); at != start || n != end-start {
		t.Fatalf("%q: ReFind(%q) = %d, %d; want %d, %d", impl.ReText(l), s, at, n, start, end-start)
	}
	if impl.ReTest(l, s) != (start >= 0) {
		t.Fatalf("%q: ReTest(%q) = %v", impl.ReText(l), s, start < 0)
	}
	want, n := wantSub(l, s, "<>")
	if got, k := impl.ReSub(l, s, "<>"); got != want || k != n || impl.ReCount(l, s) != n {
		t.Fatalf("%q: ReSub(%q) = %q, %d, ReCount %d; want %q, %d", impl.ReText(l), s, got, k, impl.ReCount(l, s), want, n)
	}
}

// checkText compares a list with the one that its text is parsed into.
func checkText(t *testing.T, l []impl.ReNode) []impl.ReNode {
	t.Helper()
	text := impl.ReText(l)
	m, ok := impl.ReParse(text)
	if !ok || treeOf(m, len(m)-1) != treeOf(l, len(l)-1) || impl.ReText(m) != text {
		t.Fatalf("%v has the text %q, which is parsed into %v, %v", l, text, m, ok)
	}
	return m
}

func allStrings(alphabet string, most int) []string {
	all := []string{""}
	level := all
	for range most {
		var next []string
		for _, s := range level {
			for i := range len(alphabet) {
				next = append(next, s+alphabet[i:i+1])
			}
		}
		all = append(all, next...)
		level = next
	}
	return all
}

func TestReParseNodes(t *testing.T) {
	a, b, c := byteNode('a'), byteNode('b'), byteNode('c')
	beg, end := kidsNode(impl.ReBeg), kidsNode(impl.ReEnd)
	for _, x := range []struct {
		pattern string
		l       []impl.ReNode
	}{
		{"a", []impl.ReNode{a}},
		{"\x00", []impl.ReNode{byteNode(0)}},
		{"\xff", []impl.ReNode{byteNode(255)}},
		{"\n", []impl.ReNode{byteNode('\n')}},
		{"-", []impl.ReNode{byteNode('-')}},
		{"é", []impl.ReNode{byteNode(0xc3), byteNode(0xa9), kidsNode(impl.ReSeq, 0, 1)}},
		{".", []impl.ReNode{anyNode()}},
		{"^", []impl.ReNode{beg}},
		{"$", []impl.ReNode{end}},
		{"\\a", []impl.ReNode{a}},
		{"\\n", []impl.ReNode{byteNode('n')}},
		{"\\\\", []impl.ReNode{byteNode('\\')}},
		{"\\.", []impl.ReNode{byteNode('.')}},
		{"\\^", []impl.ReNode{byteNode('^')}},
		{"\\$", []impl.ReNode{byteNode('$')}},
		{"\\]", []impl.ReNode{byteNode(']')}},
		{"\\(", []impl.ReNode{byteNode('(')}},
		{"\\\x00", []impl.ReNode{byteNode(0)}},
		{"(a)", []impl.ReNode{a}},
		{"((a))", []impl.ReNode{a}},
		{"ab", []impl.ReNode{a, b, kidsNode(impl.ReSeq, 0, 1)}},
		{"abc", []impl.ReNode{a, b, c, kidsNode(impl.ReSeq, 0, 1, 2)}},
		{"a|b|c", []impl.ReNode{a, b, c, kidsNode(impl.ReAlt, 0, 1, 2)}},
		{"a*", []impl.ReNode{a, kidsNode(impl.ReStar, 0)}},
		{"a+", []impl.ReNode{a, kidsNode(impl.RePlus, 0)}},
		{"a?", []impl.ReNode{a, kidsNode(impl.ReOpt, 0)}},
		{"a*+?", []impl.ReNode{a, kidsNode(impl.ReStar, 0), kidsNode(impl.RePlus, 1), kidsNode(impl.ReOpt, 2)}},
		{"^*", []impl.ReNode{beg, kidsNode(impl.ReStar, 0)}},
		{"a^b$", []impl.ReNode{a, beg, b, end, kidsNode(impl.ReSeq, 0, 1, 2, 3)}},
		{"ab|c*", []impl.ReNode{a, b, kidsNode(impl.ReSeq, 0, 1), c, kidsNode(impl.ReStar, 3), kidsNode(impl.ReAlt, 2, 4)}},
		{"a(b|c)", []impl.ReNode{a, b, c, kidsNode(impl.ReAlt, 1, 2), kidsNode(impl.ReSeq, 0, 3)}},
		{"(a|b)|c", []impl.ReNode{a, b, kidsNode(impl.ReAlt, 0, 1), c, kidsNode(impl.ReAlt, 2, 3)}},
		{"(ab)c", []impl.ReNode{a, b, kidsNode(impl.ReSeq, 0, 1), c, kidsNode(impl.ReSeq, 2, 3)}},
		{"(ab)*", []impl.ReNode{a, b, kidsNode(impl.ReSeq, 0, 1), kidsNode(impl.ReStar, 2)}},
		{"ab*", []impl.ReNode{a, b, kidsNode(impl.ReStar, 1), kidsNode(impl.ReSeq, 0, 2)}},
		{"(a*)*", []impl.ReNode{a, kidsNode(impl.ReStar, 0), kidsNode(impl.ReStar, 1)}},
		{"[ab]c", []impl.ReNode{setNode(false, "aabb"), c, kidsNode(impl.ReSeq, 0, 1)}},
		{"[a]*", []impl.ReNode{a, kidsNode(impl.ReStar, 0)}},
	} {
		if got := reParsed(t, x.pattern); !sameNodes(got, x.l) {
			t.Errorf("ReParse(%q) = %v; want %v", x.pattern, got, x.l)
		}
	}
}

func TestReParseClasses(t *testing.T) {
	for _, x := range []struct {
		pattern string
		neg     bool
		set     string
	}{
		{"[a]", false, "aa"}, {"[ab]", false, "aabb"}, {"[ba]", false, "bbaa"}, {"[aa]", false, "aaaa"},
		{"[a-c]", false, "ac"}, {"[a-a]", false, "aa"}, {"[a-cx0-9]", false, "acxx09"}, {"[\x00-\xff]", false, "\x00\xff"},
		// ^ at each place.
		{"[^a]", true, "aa"}, {"[a^]", false, "aa^^"}, {"[^^]", true, "^^"}, {"[\\^]", false, "^^"}, {"[\\^a]", false, "^^aa"},
		{"[^a-c]", true, "ac"}, {"[^^-a]", true, "^a"}, {"[Z-^]", false, "Z^"}, {"[^\\^]", true, "^^"},
		// - at each place.
		{"[-]", false, "--"}, {"[-a]", false, "--aa"}, {"[a-]", false, "aa--"}, {"[^-]", true, "--"}, {"[^-a]", true, "--aa"},
		{"[^a-]", true, "aa--"}, {"[--]", false, "----"}, {"[---]", false, "--"}, {"[----]", false, "----"}, {"[--a]", false, "-a"},
		{"[!--]", false, "!-"}, {"[a-c-e]", false, "ac--ee"}, {"[a-c-]", false, "ac--"}, {"[a-c--e]", false, "ac-e"},
		{"[a\\-c]", false, "aa--cc"}, {"[\\--a]", false, "-a"}, {"[!-\\-]", false, "!-"}, {"[a-b-c-d]", false, "ab--cd"},
		// Backslashes.
		{"[\\]]", false, "]]"}, {"[\\\\]", false, "\\\\"}, {"[\\a]", false, "aa"}, {"[\\n]", false, "nn"}, {"[\\a-\\c]", false, "ac"},
		{"[A-\\]]", false, "A]"}, {"[\\]-a]", false, "]a"}, {"[\\\\-a]", false, "\\a"}, {"[A-\\\\]", false, "A\\"}, {"[\\]-]", false, "]]--"},
		{"[^\\]]", true, "]]"}, {"[a-\\-]", false, ""},
		// Other signs stand for themselves.
		{"[.]", false, ".."}, {"[[]", false, "[["}, {"[[a]", false, "[[aa"}, {"[$]", false, "$$"}, {"[(|)*+?]", false, "((||))**++??"},
		{"[\xc3\xa9]", false, "\xc3\xc3\xa9\xa9"}, {"[\n\x00]", false, "\n\n\x00\x00"},
	} {
		l, ok := impl.ReParse(x.pattern)
		if x.set == "" {
			if ok || l != nil {
				t.Errorf("ReParse(%q) = %v, %v; want nil, false", x.pattern, l, ok)
			}
			continue
		}
		if !ok || !sameNodes(l, []impl.ReNode{setNode(x.neg, x.set)}) {
			t.Errorf("ReParse(%q) = %v, %v; want the set %v %q", x.pattern, l, ok, x.neg, x.set)
		}
	}
}

func TestReParseRejects(t *testing.T) {
	for _, pattern := range []string{
		"", "|", "a|", "|a", "a||b", "a|b|", "(", ")", "()", "(|a)", "(a|)", "(a", "a)", "(a))", "((a)", ")(", "a(b", "a()b", "()*",
		"*", "+", "?", "*a", "|*", "a|*b", "(*a)", "(+)", "a|?", "]", "a]", "]a", "[a]]", "a|]", "(])",
		"[", "[]", "[^]", "[]]", "[]a]", "[^]a]", "[a", "[^", "[^a", "a[", "[a-", "[a-b", "[-", "[\\]", "[\\", "[a\\", "[a-\\", "[a-\\]", "[a-b\\]",
		"[b-a]", "[a-Z]", "[a--]", "[^b-a]", "[xb-a]", "[a-\\]]", "[\xff-\x00]", "[a-]b]", "[a]-]", "a[]", "([)]", "([a)",
		"\\", "a\\", "(\\)", "(a\\)", "a|\\", "ab\\\\\\",
	} {
		if l, ok := impl.ReParse(pattern); ok || l != nil {
			t.Errorf("ReParse(%q) = %v, %v; want nil, false", pattern, l, ok)
		}
	}
}

// grammarStrings returns the regular expressions without classes that have at
// most that many bytes, made by the rules of the grammar.
func grammarStrings(alphabet string, most int) map[string]bool {
	whole := make([][]string, most+1)
	parts := make([][]string, most+1)
	repeats := make([][]string, most+1)
	all := map[string]bool{}
	for n := 1; n <= most; n++ {
		for _, b := range alphabet {
			if n == 1 && !strings.ContainsRune("()|*+?[]\\", b) {
				repeats[1] = append(repeats[1], string(b))
			}
			if n == 2 {
				repeats[2] = append(repeats[2], "\\"+string(b))
			}
			if n > 1 && strings.ContainsRune("*+?", b) {
				for _, s := range repeats[n-1] {
					repeats[n] = append(repeats[n], s+string(b))
				}
			}
		}
		if n > 2 {
			for _, s := range whole[n-2] {
				repeats[n] = append(repeats[n], "("+s+")")
			}
		}
		parts[n] = append(parts[n], repeats[n]...)
		whole[n] = append(whole[n], repeats[n]...)
		for i := 1; i < n; i++ {
			parts[n] = append(parts[n], joinEach(repeats[i], "", parts[n-i])...)
			whole[n] = append(whole[n], joinEach(repeats[i], "", parts[n-i])...)
		}
		for i := 1; i < n-1; i++ {
			whole[n] = append(whole[n], joinEach(parts[i], "|", whole[n-1-i])...)
		}
		for _, s := range whole[n] {
			all[s] = true
		}
	}
	return all
}

func joinEach(heads []string, between string, tails []string) []string {
	var all []string
	for _, head := range heads {
		for _, tail := range tails {
			all = append(all, head+between+tail)
		}
	}
	return all
}

func TestReParseAcceptsTheGrammar(t *testing.T) {
	const alphabet = "a^.\\|*?()]"
	grammar := grammarStrings(alphabet, 5)
	for _, pattern := range allStrings(alphabet, 5) {
		l, ok := impl.ReParse(pattern)
		if ok != grammar[pattern] {
			t.Fatalf("ReParse(%q) reports %v; want %v", pattern, ok, grammar[pattern])
		}
		if ok != impl.ReOk(l) || !ok && l != nil {
			t.Fatalf("ReParse(%q) = %v, %v", pattern, l, ok)
		}
	}
}

// classSet reads a class, one item after the other. It returns the empty
// string for what is not a class.
func classSet(class string) (bool, string) {
	item := regexp.MustCompile(`^(?s:(\\.|[^\]\\])(?:-(\\.|[^\]\\]))?)`)
	rest, neg := strings.CutPrefix(class[1:], "^")
	set := ""
	for rest != "" && rest[0] != ']' {
		m := item.FindStringSubmatch(rest)
		if m == nil {
			return false, ""
		}
		first := m[1][len(m[1])-1]
		last := first
		if m[2] != "" {
			last = m[2][len(m[2])-1]
		}
		if last < first {
			return false, ""
		}
		set += string([]byte{first, last})
		rest = rest[len(m[0]):]
	}
	if rest != "]" || set == "" {
		return false, ""
	}
	return neg, set
}

func TestReParseAcceptsTheClasses(t *testing.T) {
	for _, body := range allStrings("]^-\\aA", 6) {
		neg, set := classSet("[" + body)
		l, ok := impl.ReParse("[" + body)
		if set == "" {
			// What follows the first class may be a regular expression too.
			if ok && len(l) == 1 {
				t.Fatalf("ReParse(%q) = %v, true; want no class", "["+body, l)
			}
			continue
		}
		if !ok || !sameNodes(l, []impl.ReNode{setNode(neg, set)}) {
			t.Fatalf("ReParse(%q) = %v, %v; want the set %v %q", "["+body, l, ok, neg, set)
		}
	}
}

func TestReParseLimits(t *testing.T) {
	nested := func(n int) string {
		return strings.Repeat("(", n) + "a" + strings.Repeat(")", n)
	}
	// Each "ab|" gives three nodes; the list ends with the ReAlt.
	groups := strings.Repeat("ab|", 65) + "ab"
	for _, x := range []struct {
		name    string
		pattern string
		nodes   int
	}{
		{"200 bytes", strings.Repeat("a", impl.MaxRe-1) + "b", 0},
		{"199 bytes", strings.Repeat("a", impl.MaxRe-1), impl.MaxRe},
		{"200 bytes in one class", "[" + strings.Repeat("a", impl.MaxRe-2) + "]", 1},
		{"201 bytes in one class", "[" + strings.Repeat("a", impl.MaxRe-1) + "]", 0},
		{"200 bytes of repetitions", "a" + strings.Repeat("*", impl.MaxRe-1), impl.MaxRe},
		{"201 bytes of repetitions", "a" + strings.Repeat("*", impl.MaxRe), 0},
		{"200 bytes of backslashes", strings.Repeat("\\", impl.MaxRe), impl.MaxRe/2 + 1},
		{"nested 20 deep", nested(impl.MaxNest), 1},
		{"nested 21 deep", nested(impl.MaxNest + 1), 0},
		{"nested 20 deep twice", nested(impl.MaxNest) + "*" + nested(impl.MaxNest), 4},
		{"nested 21 deep later", "a|" + nested(impl.MaxNest+1), 0},
		{"nested 21 deep, 2 and 19", "(a(b)" + nested(impl.MaxNest) + ")", 0},
		{"parentheses that are bytes", strings.Repeat("\\(", impl.MaxNest+1), impl.MaxNest + 2},
		{"199 nodes", groups, 199},
		{"200 nodes", groups + "a", 200},
		{"201 nodes", groups + "aa", 0},
		{"202 nodes", groups + "|ab", 0},
	} {
		l, ok := impl.ReParse(x.pattern)
		if len(l) != x.nodes || ok != (x.nodes > 0) || ok && !impl.ReOk(l) {
			t.Errorf("%s: %d nodes, %v; want %d", x.name, len(l), ok, x.nodes)
		}
	}
	if l, ok := impl.ReParse(strings.Repeat("a", 1000000)); ok || l != nil {
		t.Error("a pattern of 1000000 bytes is accepted")
	}
}

var rePatterns = []string{
	"a", "b", ".", "^", "$", "a*", "a+", "a?", "ab", "a|b", "a|ab", "ab|a", "a|ab|abb", "(a|ab)(c|bcd)", "(a|b)*abb", "a*b*", "(ab)*", "(ab)+a",
	"(a|b)?c", "(a*b)*", "(a*)*", "(a*)+", "(a?)*b", "(a*|b)*", "(a+)+", "((a|b)+c?)*", "a**", "a*+?", "(a?b?)+", "(^)*", "($)+", "(^|a)+b",
	"^a", "a$", "^a*$", "^$", "a^b", "a$b", "(^a)*", "(a$)*", "(^a|b$)+", "(a|^b)*c", "^^a", "a$$", "(a|$)(b|$)", "(^|b)(a|c)", "b*(^a|$)", "(^b)?a",
	"[ab]", "[^a]", "[a-b]+", "[^a-b]*", "[b-c][a-b]", "[a^]+", "[-a]*", "[^-]", "[\\]a]", "x*", "ab|c*", "((ab)*|[^x\\]])+", "a.c", "a.*c", ".+b",
	"(a|b|c)*c(a|b)", "(ab|b|a)(ab)*", "((a)(b|(c)))*", "\\a\\*", "c?a+b*", "(.)*", "(.b)*", "((((a))))",
}

func TestReMatchesAreTheDefinedOnes(t *testing.T) {
	subjects := append(allStrings("abc", 5), "a]b", "^-^", "x\na", "aaabbbccc", "abcabcabc", "cbacbacba", "abababababab")
	for _, pattern := range rePatterns {
		l := reParsed(t, pattern)
		m := checkText(t, l)
		for _, s := range subjects {
			checkMatches(t, l, s)
			for from := range len(s) + 1 {
				if !slices.Equal(impl.ReEnds(l, s, from), impl.ReEnds(m, s, from)) {
					t.Fatalf("%q and its text %q do not have the same matches in %q", pattern, impl.ReText(l), s)
				}
			}
		}
	}
}

func TestReMatchesOfAllShortPatterns(t *testing.T) {
	subjects := allStrings("ab", 3)
	for _, pattern := range allStrings("ab.^$|*+?()", 5) {
		l, ok := impl.ReParse(pattern)
		if !ok || len(pattern) == 5 && !strings.Contains(pattern, "(") {
			continue
		}
		checkText(t, l)
		for _, s := range subjects {
			checkMatches(t, l, s)
		}
	}
}

// The package regexp knows the same leftmost longest matches, and is no part
// of this project.
func TestReFindIsThatOfAnotherEngine(t *testing.T) {
	subjects := allStrings("abc", 5)
	for _, pattern := range rePatterns {
		if strings.Contains(pattern, "\\a") {
			continue // a byte 7 there
		}
		other := regexp.MustCompilePOSIX(pattern)
		l := reParsed(t, pattern)
		for _, s := range subjects {
			at, n := impl.ReFind(l, s)
			want := other.FindStringIndex(s)
			if want == nil && at != -1 || want != nil && (at != want[0] || n != want[1]-want[0]) {
				t.Fatalf("%q: ReFind(%q) = %d, %d; want %v", pattern, s, at, n, want)
			}
		}
	}
}

type treeMaker uint64

func (r *treeMaker) below(n int) int {
	*r = *r*6364136223846793005 + 1442695040888963407
	return int(*r>>33) % n
}

func (r *treeMaker) leaf() impl.ReNode {
	switch r.below(8) {
	case 0:
		return kidsNode(impl.ReBeg)
	case 1:
		return kidsNode(impl.ReEnd)
	case 2:
		return anyNode()
	case 3:
		return setNode(r.below(2) == 0, []string{"aabb", "ab", "ac", "]]^^", "--\\\\aa", "\x00`", "b\xff", "acab"}[r.below(8)])
	}
	return byteNode("abc(|)*+?[]^$.-\\"[min(r.below(20), 15)])
}

// tree returns a list whose kids are in any order, also descending.
func (r *treeMaker) tree(n int) []impl.ReNode {
	var l []impl.ReNode
	var free []int
	for len(l) < n || len(free) > 1 {
		node := r.leaf()
		if len(l) >= n || r.below(2) == 0 && len(free) > 0 {
			kind := impl.ReSeq + r.below(5)
			most := 1
			if kind <= impl.ReAlt {
				most = min(len(free), 2+r.below(3))
			}
			node = impl.ReNode{Kind: kind}
			for range most {
				i := r.below(len(free))
				node.Kids = append(node.Kids, free[i])
				free = slices.Delete(free, i, i+1)
			}
			if kind <= impl.ReAlt && most < 2 {
				node.Kind = impl.ReStar
			}
		}
		l = append(l, node)
		free = append(free, len(l)-1)
	}
	return l
}

func TestReMatchesOfMadeTrees(t *testing.T) {
	maker := treeMaker(5)
	printed := 0
	for i := range 4000 {
		l := maker.tree(1 + i%25)
		if !impl.ReOk(l) {
			t.Fatalf("%v is not valid", l)
		}
		if impl.ReText(l) != "" {
			printed++
			checkText(t, l)
		}
		for range 6 {
			s := ""
			for range maker.below(9) {
				s += []string{"a", "b", "c", "a", "b", "]", "\\", "\xff", "\x00", "^"}[maker.below(10)]
			}
			checkMatches(t, l, s)
		}
	}
	if printed < 3900 {
		t.Errorf("only %d of the trees have a text", printed)
	}
}

func TestReFindOnChosenSubjects(t *testing.T) {
	for _, x := range []struct {
		pattern, s string
		at, n      int
	}{
		{"a+b|c", "xaab", 1, 3}, {"a", "", -1, 0}, {"a", "b", -1, 0}, {"a*", "", 0, 0}, {"a*", "baa", 0, 0}, {"b$", "abb", 2, 1},
		// The longest match counts, also where an earlier alternative is shorter.
		{"a|ab", "xab", 1, 2}, {"a|ab|abc", "abcd", 0, 3}, {"abc|ab|a", "abd", 0, 2}, {"(a|ab)(c|bcd)", "abcd", 0, 4}, {"a|a*b", "aaac", 0, 1},
		{"a|a*b", "aaab", 0, 4}, {"x?|ab", "ab", 0, 2}, {"(a|b|ab)*c", "ababc", 0, 5}, {"b|abcd|bc", "xabce", 2, 2}, {"a?", "aa", 0, 1},
		// The leftmost one counts, also where a later one is longer.
		{"a|bbb", "abbb", 0, 1}, {"bbb|a", "abbb", 0, 1}, {"a?b*", "cabb", 0, 0}, {"b+", "abab", 1, 1}, {"$|b", "ab", 1, 1},
		{"^", "ab", 0, 0}, {"$", "ab", 2, 0}, {"^$", "", 0, 0}, {"^$", "a", -1, 0}, {"$^", "", 0, 0}, {"^b", "ab", -1, 0}, {"a^b", "ab", -1, 0},
		{"a$b", "ab", -1, 0}, {"(^a)+", "aaa", 0, 1}, {"(^a)*", "ba", 0, 0}, {"(a$)+", "aaa", 2, 1}, {"(^|b)a", "ba", 0, 2}, {"(^|c)a", "bca", 1, 2},
		{"(^a|b)+", "abba", 0, 3}, {"(a|b$)+", "aabb", 0, 2}, {"(a|b$)+", "aab", 0, 3}, {"a(^|$)", "aa", 1, 1}, {"^a", "b\na", -1, 0}, {"a$", "a\n", -1, 0},
		{"(a*)*b", "aab", 0, 3}, {"(a*)+", "b", 0, 0}, {"(a?)+", "aab", 0, 2}, {"(^*a)+", "aab", 0, 2}, {"($)*", "a", 0, 0}, {"((a|^)*|b)*c", "abac", 0, 4},
		{".", "\x00", 0, 1}, {".", "\n", 0, 1}, {"...", "\xff\x80é", 0, 3}, {"[^a]", "aa\n", 2, 1}, {"[\x80-\xff]+", "a\xc3\xa9b", 1, 2}, {"[^\x00-\xff]", "abc", -1, 0},
		{"[^a-y]", "xyz", 2, 1}, {"[a-]+", "b-a-b", 1, 3}, {"\\.", "a.b", 1, 1}, {"\\^a\\$", "x^a$", 1, 3},
	} {
		l := reParsed(t, x.pattern)
		if at, n := impl.ReFind(l, x.s); at != x.at || n != x.n || impl.ReTest(l, x.s) != (x.at >= 0) {
			t.Errorf("%q: ReFind(%q) = %d, %d; want %d, %d", x.pattern, x.s, at, n, x.at, x.n)
		}
	}
}

func TestReEndsOnChosenSubjects(t *testing.T) {
	for _, x := range []struct {
		pattern, s string
		from       int
		ends       []int
	}{
		{"ab|c*", "cc", 0, []int{0, 1, 2}}, {"ab|c*", "cc", 1, []int{1, 2}}, {"ab|c*", "cc", 2, []int{2}}, {"a+", "aaa", 1, []int{2, 3}},
		{"a?", "aaa", 1, []int{1, 2}}, {"a|ab|abcd", "abcd", 0, []int{1, 2, 4}}, {"(ab)*", "ababa", 0, []int{0, 2, 4}}, {"a*$", "aab", 0, nil},
		{"(a|aa)(a|aaa)", "aaaaaa", 0, []int{2, 3, 4, 5}}, {"^a", "aa", 1, nil}, {"^", "aa", 0, []int{0}}, {"$", "aa", 1, nil}, {"$", "aa", 2, []int{2}},
		{"a*$|b*", "aa", 1, []int{1, 2}}, {"(a$|a)*", "aa", 0, []int{0, 1, 2}}, {".*b", "abab", 0, []int{2, 4}}, {"a", "", 0, nil}, {"a*", "", 0, []int{0}},
		// Offsets outside the string.
		{"a*", "aa", 3, nil}, {"a*", "aa", -1, nil}, {"a*", "", 1, nil}, {"a*", "aa", 1 << 62, nil}, {"a*", "aa", -1 << 63, nil},
	} {
		l := reParsed(t, x.pattern)
		if got := impl.ReEnds(l, x.s, x.from); !slices.Equal(got, x.ends) {
			t.Errorf("%q: ReEnds(%q, %d) = %v; want %v", x.pattern, x.s, x.from, got, x.ends)
		}
	}
}

func TestReSubOnChosenSubjects(t *testing.T) {
	for _, x := range []struct {
		pattern, s, by, out string
		n                   int
	}{
		{"a+", "baaca", "<>", "b<>c<>", 2}, {"a", "bbb", "x", "bbb", 0}, {"a", "", "x", "", 0}, {"a", "aaa", "", "", 3}, {"aa", "aaaaa", "b", "bba", 2},
		{"a|ab", "abab", "x", "xx", 2}, {"b", "abc", "longer", "alongerc", 1}, {".", "ab\n", "\\&", "\\&\\&\\&", 3}, {"a", "aba", "a", "aba", 2}, {"ab", "aabb", "", "ab", 1},
		// Empty matches, also immediately after one that is not empty, and at the end.
		{"x*", "ab", "-", "-a-b-", 3}, {"x*", "", "-", "-", 1}, {"a*", "aa", "-", "--", 2}, {"a*", "baac", "-", "-b--c-", 4}, {"a*", "ab", "", "b", 3},
		{"a?", "aab", "-", "---b-", 4}, {"(a|b)*", "abab", "-", "--", 2}, {"x*", "ab", "", "ab", 3}, {"x?$", "abx", "-", "ab--", 2}, {"b*", "abb", "-", "-a--", 3},
		// ReBeg and ReEnd refer to the whole of the string.
		{"^", "ab", "-", "-ab", 1}, {"$", "ab", "-", "ab-", 1}, {"^|$", "ab", "-", "-ab-", 2}, {"^$", "", "-", "-", 1}, {"^a", "aaa", "-", "-aa", 1}, {"(^a)*", "aa", "-", "--a-", 3},
		{"a$", "aaa", "-", "aa-", 1}, {"^a*", "aab", "-", "-b", 1}, {"^|a", "aab", "-", "--b", 2}, {"a|$", "ba", "-", "b--", 2}, {"b*$", "abb", "-", "a--", 2},
	} {
		l := reParsed(t, x.pattern)
		if out, n := impl.ReSub(l, x.s, x.by); out != x.out || n != x.n || impl.ReCount(l, x.s) != x.n {
			t.Errorf("%q: ReSub(%q, %q) = %q, %d, ReCount %d; want %q, %d", x.pattern, x.s, x.by, out, n, impl.ReCount(l, x.s), x.out, x.n)
		}
	}
}

func TestReSubLimits(t *testing.T) {
	full := strings.Repeat("a", impl.MaxSubject)
	half := strings.Repeat("a", impl.MaxSubject/2)
	for _, x := range []struct {
		name, pattern, s, by string
		size, n              int
	}{
		{"no occurrence in 500 bytes", "b", full, "xx", 500, 0},
		{"500 bytes for 500", "a", full, "b", 500, 500},
		{"500 bytes and an empty match", "b*", full, "", 500, 501},
		{"501 bytes by an empty match", "$", full, "b", 0, -1},
		{"500 bytes by an empty match", "$", full[1:], "b", 500, 1},
		{"502 bytes for 500", "^a", full, "xxx", 0, -1},
		{"500 bytes for 250", "a", half, "bb", 500, 250},
		{"501 bytes for 250", "a|$", half, "bb", 0, -1},
		{"500 bytes for 249 and an end", "a|$", half[1:], "bb", 500, 250},
		{"501 bytes by the rest", "^b", "b" + full[1:], "xx", 0, -1},
		{"500 bytes for one", "b", "b", full, 500, 1},
		{"501 bytes for one", "b", "b", full + "x", 0, -1},
		{"501 bytes with the byte before", "b", "ab", full, 0, -1},
		{"501 bytes with the byte after", "b", "ba", full, 0, -1},
		{"nothing for 500", "a*", full, "", 0, 2},
		{"many bytes for none", "b", "aaa", strings.Repeat("x", 1000000), 3, 0},
		{"many bytes for many", "a", full, strings.Repeat("x", 1000000), 0, -1},
		{"501 bytes that would become fewer", "a", full + "a", "", 0, -1},
	} {
		l := reParsed(t, x.pattern)
		out, n := impl.ReSub(l, x.s, x.by)
		if len(out) != x.size || n != x.n {
			t.Errorf("%s: %d bytes, %d occurrences; want %d, %d", x.name, len(out), n, x.size, x.n)
		}
		if n >= 0 && impl.ReCount(l, x.s) != n {
			t.Errorf("%s: %d occurrences are replaced and %d counted", x.name, n, impl.ReCount(l, x.s))
		}
	}
}

func TestReSubjectLimit(t *testing.T) {
	l := reParsed(t, "a*b|$")
	s := strings.Repeat("a", impl.MaxSubject-1) + "b"
	if ends := impl.ReEnds(l, s, 0); !slices.Equal(ends, []int{impl.MaxSubject}) {
		t.Errorf("ReEnds of %d bytes is %v", len(s), ends)
	}
	if ends := impl.ReEnds(l, s, len(s)); !slices.Equal(ends, []int{len(s)}) {
		t.Errorf("ReEnds at the end of %d bytes is %v", len(s), ends)
	}
	if at, n := impl.ReFind(l, s); at != 0 || n != len(s) || !impl.ReTest(l, s) || impl.ReCount(l, s) != 2 {
		t.Errorf("ReFind of %d bytes is %d, %d", len(s), at, n)
	}
	for _, long := range []string{s + "b", strings.Repeat("b", 1000000)} {
		at, n := impl.ReFind(l, long)
		out, k := impl.ReSub(l, long, "")
		if impl.ReEnds(l, long, 0) != nil || at != -1 || n != 0 || impl.ReTest(l, long) || impl.ReCount(l, long) != -1 || out != "" || k != -1 {
			t.Errorf("a subject of %d bytes is accepted", len(long))
		}
	}
}

func TestReTextOfNodes(t *testing.T) {
	a, b := byteNode('a'), byteNode('b')
	beg, end := kidsNode(impl.ReBeg), kidsNode(impl.ReEnd)
	seq, alt := kidsNode(impl.ReSeq, 0, 1), kidsNode(impl.ReAlt, 0, 1)
	for _, x := range []struct {
		l    []impl.ReNode
		text string
	}{
		{[]impl.ReNode{a}, "a"}, {[]impl.ReNode{beg}, "^"}, {[]impl.ReNode{end}, "$"}, {[]impl.ReNode{anyNode()}, "."},
		{[]impl.ReNode{byteNode(0)}, "\x00"}, {[]impl.ReNode{byteNode('\n')}, "\n"}, {[]impl.ReNode{byteNode(255)}, "\xff"},
		{[]impl.ReNode{byteNode('-')}, "-"}, {[]impl.ReNode{byteNode('/')}, "/"}, {[]impl.ReNode{byteNode('{')}, "{"},
		{[]impl.ReNode{setNode(true, "aa")}, "[^a]"}, {[]impl.ReNode{setNode(false, "ac")}, "[a-c]"}, {[]impl.ReNode{setNode(false, "aaaa")}, "[aa]"},
		{[]impl.ReNode{setNode(true, "..")}, "[^.]"}, {[]impl.ReNode{setNode(false, "ccaa")}, "[ca]"}, {[]impl.ReNode{setNode(true, "acxx09")}, "[^a-cx0-9]"},
		{[]impl.ReNode{setNode(false, "]]^^--\\\\[[..")}, "[\\]\\^\\-\\\\[.]"}, {[]impl.ReNode{setNode(false, "-]^a")}, "[\\--\\]\\^-a]"},
		{[]impl.ReNode{setNode(false, "\\^")}, "[\\\\-\\^]"}, {[]impl.ReNode{setNode(false, "\x00\xff")}, "[\x00-\xff]"}, {[]impl.ReNode{setNode(true, "^^")}, "[^\\^]"},
		{[]impl.ReNode{a, b, seq}, "ab"}, {[]impl.ReNode{a, b, alt}, "a|b"}, {[]impl.ReNode{a, b, kidsNode(impl.ReSeq, 1, 0)}, "ba"},
		{[]impl.ReNode{a, b, kidsNode(impl.ReAlt, 1, 0)}, "b|a"}, {[]impl.ReNode{a, kidsNode(impl.ReStar, 0)}, "a*"},
		{[]impl.ReNode{a, kidsNode(impl.RePlus, 0)}, "a+"}, {[]impl.ReNode{a, kidsNode(impl.ReOpt, 0)}, "a?"},
		{[]impl.ReNode{a, kidsNode(impl.ReOpt, 0), kidsNode(impl.ReStar, 1), kidsNode(impl.RePlus, 2)}, "a?*+"},
		{[]impl.ReNode{a, b, seq, kidsNode(impl.ReStar, 2)}, "(ab)*"}, {[]impl.ReNode{a, b, seq, kidsNode(impl.RePlus, 2)}, "(ab)+"},
		{[]impl.ReNode{a, b, alt, kidsNode(impl.ReOpt, 2)}, "(a|b)?"}, {[]impl.ReNode{a, b, alt, kidsNode(impl.RePlus, 2)}, "(a|b)+"},
		{[]impl.ReNode{a, b, alt, kidsNode(impl.ReStar, 2)}, "(a|b)*"}, {[]impl.ReNode{a, b, seq, kidsNode(impl.ReOpt, 2)}, "(ab)?"},
		{[]impl.ReNode{a, b, seq, beg, kidsNode(impl.ReSeq, 2, 3)}, "(ab)^"}, {[]impl.ReNode{a, b, alt, end, kidsNode(impl.ReSeq, 3, 2)}, "$(a|b)"},
		{[]impl.ReNode{a, b, seq, beg, kidsNode(impl.ReAlt, 2, 3)}, "ab|^"}, {[]impl.ReNode{a, b, alt, end, kidsNode(impl.ReAlt, 2, 3)}, "(a|b)|$"},
		{[]impl.ReNode{a, kidsNode(impl.ReStar, 0), b, kidsNode(impl.ReSeq, 1, 2)}, "a*b"}, {[]impl.ReNode{setNode(false, "ab"), kidsNode(impl.RePlus, 0)}, "[a-b]+"},
		{[]impl.ReNode{beg, kidsNode(impl.ReStar, 0)}, "^*"}, {[]impl.ReNode{byteNode('*'), kidsNode(impl.ReStar, 0)}, "\\**"},
	} {
		if got := impl.ReText(x.l); got != x.text {
			t.Errorf("ReText(%v) = %q; want %q", x.l, got, x.text)
		}
		checkText(t, x.l)
	}
	for b := range 256 {
		want := string([]byte{byte(b)})
		if strings.Contains("()|*+?[]^$.\\", want) {
			want = "\\" + want
		}
		l := []impl.ReNode{byteNode(byte(b))}
		if got := impl.ReText(l); got != want {
			t.Errorf("ReText of the byte %d is %q; want %q", b, got, want)
		}
		checkText(t, l)
		checkText(t, []impl.ReNode{setNode(true, string([]byte{byte(b), byte(b), byte(b), 255, 0, byte(b)}))})
	}
}

// seqInSeq has a ReSeq in a ReSeq, n times; each but the outer one is printed
// in parentheses.
func seqInSeq(n int) []impl.ReNode {
	l := []impl.ReNode{byteNode('a'), byteNode('b'), kidsNode(impl.ReSeq, 0, 1)}
	for range n {
		l = append(l, byteNode('c'), kidsNode(impl.ReSeq, len(l)-1, len(l)))
	}
	return l
}

func TestReTextLimits(t *testing.T) {
	if got, want := impl.ReText(seqInSeq(impl.MaxNest)), strings.Repeat("(", impl.MaxNest)+"ab"+strings.Repeat(")c", impl.MaxNest); got != want {
		t.Errorf("nested %d deep: %q; want %q", impl.MaxNest, got, want)
	}
	checkText(t, seqInSeq(impl.MaxNest))
	if got := impl.ReText(seqInSeq(impl.MaxNest + 1)); got != "" {
		t.Errorf("nested %d deep: %q", impl.MaxNest+1, got)
	}
	// What is nested too deep is not the last thing that is printed.
	deep := seqInSeq(impl.MaxNest)
	deep = append(deep, byteNode('c'), kidsNode(impl.ReAlt, len(deep), len(deep)-1), kidsNode(impl.RePlus, len(deep)+1))
	if got := impl.ReText(deep); got != "" || !impl.ReOk(deep) {
		t.Errorf("nested %d deep: %q", impl.MaxNest+1, got)
	}
	for _, escaped := range []int{0, 1, 2, 199} {
		var l []impl.ReNode
		last := kidsNode(impl.ReSeq)
		for i := range impl.MaxRe - 1 {
			l = append(l, byteNode("a*"[min(max(escaped-i, 0), 1)]))
			last.Kids = append(last.Kids, i)
		}
		l = append(l, last)
		want := strings.Repeat("\\*", escaped) + strings.Repeat("a", impl.MaxRe-1-escaped)
		if len(want) > impl.MaxRe {
			want = ""
		}
		if got := impl.ReText(l); got != want || !impl.ReOk(l) {
			t.Errorf("%d escaped bytes: %q; want %q", escaped, got, want)
		}
	}
	for _, x := range []struct{ pairs, size int }{{198, 200}, {199, 0}, {1000000, 0}} {
		l := []impl.ReNode{setNode(false, strings.Repeat("aa", x.pairs))}
		if got := impl.ReText(l); len(got) != x.size || !impl.ReOk(l) || !impl.ReTest(l, "ba") {
			t.Errorf("%d pairs: a text of %d bytes; want %d", x.pairs, len(got), x.size)
		}
	}
}

func TestReOk(t *testing.T) {
	a, b := byteNode('a'), byteNode('b')
	stars := func(n int) []impl.ReNode {
		l := []impl.ReNode{a}
		for len(l) < n {
			l = append(l, kidsNode(impl.ReStar, len(l)-1))
		}
		return l
	}
	for _, l := range [][]impl.ReNode{
		{a}, {anyNode()}, {setNode(true, "aa")}, {setNode(false, "az09")}, {setNode(false, "\x00\xff")}, {kidsNode(impl.ReBeg)}, {kidsNode(impl.ReEnd)},
		{a, b, kidsNode(impl.ReSeq, 0, 1)}, {a, b, kidsNode(impl.ReSeq, 1, 0)}, {a, b, kidsNode(impl.ReAlt, 1, 0)},
		{a, b, kidsNode(impl.ReStar, 0), kidsNode(impl.RePlus, 1), kidsNode(impl.ReAlt, 2, 3)},
		{{Kind: impl.ReSet, Set: "aa", Kids: []int{}}}, stars(impl.MaxRe),
	} {
		if !impl.ReOk(l) {
			t.Errorf("%v is not valid", l)
		}
	}
	for _, l := range notRe() {
		if impl.ReOk(l) {
			t.Errorf("%v is valid", l)
		}
	}
	if impl.ReOk(stars(impl.MaxRe + 1)) {
		t.Errorf("a list of %d nodes is valid", impl.MaxRe+1)
	}
}

func notRe() [][]impl.ReNode {
	a, b := byteNode('a'), byteNode('b')
	all := [][]impl.ReNode{
		nil, {},
		// Sets.
		{setNode(false, "")}, {setNode(false, "a")}, {setNode(true, "a")}, {setNode(false, "aab")}, {setNode(true, "aab")}, {setNode(false, "ba")}, {setNode(true, "aaba")},
		{setNode(false, "\xff\x00")}, {a, {Kind: impl.ReSet, Set: "bb", Kids: []int{0}}},
		// Kinds that do not exist.
		{{Kind: -1}}, {{Kind: 8}}, {{Kind: 1 << 40}}, {a, kidsNode(8, 0)}, {a, kidsNode(-5, 0)}, {a, b, kidsNode(8, 0, 1)},
		// Numbers of kids.
		{a, kidsNode(impl.ReBeg, 0)}, {a, kidsNode(impl.ReEnd, 0)}, {kidsNode(impl.ReSeq)}, {kidsNode(impl.ReAlt)}, {kidsNode(impl.ReStar)}, {kidsNode(impl.RePlus)}, {kidsNode(impl.ReOpt)},
		{a, kidsNode(impl.ReSeq, 0)}, {a, kidsNode(impl.ReAlt, 0)}, {a, b, kidsNode(impl.ReStar, 0, 1)}, {a, b, kidsNode(impl.RePlus, 0, 1)}, {a, b, kidsNode(impl.ReOpt, 0, 1)},
		// Kids that are not earlier nodes.
		{a, kidsNode(impl.ReStar, -1)}, {a, kidsNode(impl.ReStar, 1)}, {a, kidsNode(impl.ReStar, 2)}, {a, kidsNode(impl.ReStar, 1<<62)}, {a, kidsNode(impl.ReStar, -1<<63)},
		{kidsNode(impl.ReStar, 1), a}, {kidsNode(impl.ReStar, 0)}, {kidsNode(impl.ReStar, 1), kidsNode(impl.ReStar, 0)}, {a, b, kidsNode(impl.ReSeq, 0, 1, 2)}, {a, b, kidsNode(impl.ReAlt, 0, -1, 1)},
		// Kids that are shared, and nodes that are no kids.
		{a, kidsNode(impl.ReSeq, 0, 0)}, {a, b, kidsNode(impl.ReSeq, 0, 1, 0)}, {a, b, kidsNode(impl.ReStar, 0), kidsNode(impl.ReSeq, 0, 1, 2)},
		{a, b}, {a, b, kidsNode(impl.ReStar, 0)}, {a, b, kidsNode(impl.ReStar, 1)}, {a, b, kidsNode(impl.ReSeq, 0, 1), a}, {a, a, a, kidsNode(impl.ReAlt, 0, 2)},
	}
	for kind := impl.ReBeg; kind <= impl.ReOpt; kind++ {
		kids := []int{0, 1}
		if kind <= impl.ReEnd {
			kids = nil
		} else if kind >= impl.ReStar {
			kids = kids[:1]
		}
		l := []impl.ReNode{a, b}[:len(kids)]
		all = append(all, append(slices.Clone(l), impl.ReNode{Kind: kind, Neg: true, Kids: kids}))
		all = append(all, append(slices.Clone(l), impl.ReNode{Kind: kind, Set: "aa", Kids: kids}))
	}
	return all
}

func TestReNodesThatAreNotValid(t *testing.T) {
	lists := notRe()
	var many []impl.ReNode
	for range impl.MaxRe + 1 {
		many = append(many, byteNode('a'))
	}
	lists = append(lists, many, []impl.ReNode{byteNode('a'), kidsNode(impl.ReAlt, make([]int, 1000000)...)})
	for _, l := range lists {
		for _, s := range []string{"", "a", "ab", strings.Repeat("a", impl.MaxSubject), strings.Repeat("a", impl.MaxSubject+1)} {
			at, n := impl.ReFind(l, s)
			out, k := impl.ReSub(l, s, "b")
			if at != -1 || n != 0 || out != "" || k != -1 || impl.ReCount(l, s) != -1 || impl.ReTest(l, s) || impl.ReText(l) != "" {
				t.Errorf("%v: ReFind %d, %d, ReSub %q, %d, ReCount %d", l, at, n, out, k, impl.ReCount(l, s))
			}
			for _, from := range []int{0, 1, -1, len(s), len(s) + 1} {
				if ends := impl.ReEnds(l, s, from); ends != nil {
					t.Errorf("%v: ReEnds(%q, %d) = %v", l, s, from, ends)
				}
			}
		}
	}
}

func TestReNestedRepetitionsAreFast(t *testing.T) {
	patterns := []string{
		"(a*)*b", "((a*)*)*b", "(a|a)*b", "(a|aa)+b", "(a+)+(a+)+b", "(a?)*$b", "((((a*)*)*)*)*b", "a*a*a*a*a*a*a*a*a*a*b", "(.*)(.*)(.*)(.*)(.*)b", "((a|^)*($|a)*)*b",
		strings.Repeat("(", impl.MaxNest) + "a" + strings.Repeat("*)+", impl.MaxNest) + "b",
		"a" + strings.Repeat("*", impl.MaxRe-3) + "b", strings.Repeat("a?", 99), "(" + strings.Repeat("a|", 97) + "a)*b", "(" + strings.Repeat("a?", 98) + ")*b",
	}
	done := make(chan string)
	go func() {
		defer close(done)
		for _, pattern := range patterns {
			for _, s := range []string{strings.Repeat("a", impl.MaxSubject), strings.Repeat("a", impl.MaxSubject-1) + "b", strings.Repeat("ab", impl.MaxSubject/2)} {
				l, ok := impl.ReParse(pattern)
				ends := impl.ReEnds(l, s, 0)
				at, n := impl.ReFind(l, s)
				// No subject has a match that starts later than at its beginning.
				if !ok || (at == 0) != (len(ends) > 0) || at > 0 || len(ends) > 0 && n != ends[len(ends)-1] {
					done <- fmt.Sprintf("%q: ReFind(%.5q..) = %d, %d", pattern, s, at, n)
				}
				out, k := impl.ReSub(l, s, "")
				if k != impl.ReCount(l, s) || len(out) > len(s) {
					done <- fmt.Sprintf("%q: ReSub(%.5q..) = %q, %d", pattern, s, out, k)
				}
			}
		}
	}()
	late := time.After(20 * time.Second)
	for {
		select {
		case wrong, more := <-done:
			if !more {
				return
			}
			t.Error(wrong)
		case <-late:
			t.Fatal("the answers do not come at once")
		}
	}
}

func TestReArgumentsAreNotModified(t *testing.T) {
	l := reParsed(t, "(ab|[^c-e]*)+x$")
	for i := range l {
		l[i].Kids = append(make([]int, 0, 8), l[i].Kids...)
	}
	l = append(make([]impl.ReNode, 0, 32), l...)
	spare := func() string {
		all := fmt.Sprint(l[:cap(l)])
		for _, n := range l {
			all += fmt.Sprint(n.Kids[:cap(n.Kids)])
		}
		return all
	}
	before := spare()
	impl.ReOk(l)
	impl.ReFind(l, "zabx")
	impl.ReTest(l, "zabx")
	impl.ReEnds(l, "zabx", 1)
	impl.ReText(l)
	impl.ReCount(l, "zabx")
	impl.ReSub(l, "zabx", "-")
	if spare() != before {
		t.Errorf("the list was %s and is %s", before, spare())
	}
}

func TestReResultsShareNoMemory(t *testing.T) {
	const pattern = "(ab|cd*|e+)?f|gh|(i)(j)"
	l, want := reParsed(t, pattern), reParsed(t, pattern)
	for i := range l {
		// What is appended to one list of kids must not show in another one.
		l[i].Kids = append(l[i].Kids, -1, -1, -1)
	}
	for i := range l {
		l[i].Kids = l[i].Kids[:len(l[i].Kids)-3]
	}
	if !sameNodes(l, want) {
		t.Errorf("%v has become %v", want, l)
	}
	for i := range l {
		clear(l[i].Kids)
	}
	if again := reParsed(t, pattern); !reflect.DeepEqual(again, want) {
		t.Errorf("ReParse keeps its result: %v, then %v", want, again)
	}
	ends := impl.ReEnds(want, "fcddf", 1)
	clear(ends)
	if again := impl.ReEnds(want, "fcddf", 1); !slices.Equal(again, []int{5}) {
		t.Errorf("ReEnds keeps its result: %v", again)
	}
}
