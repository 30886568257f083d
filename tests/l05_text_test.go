package tests

import (
	"math"
	"regexp"
	"slices"
	"strings"
	"testing"
	"time"

	"loop.example/g00700/impl"
)

// checkProg checks that a program is valid, that this is its text, and that it
// is recovered from it.
func checkProg(t *testing.T, p impl.Prog, want string) {
	t.Helper()
	if got := impl.ProgText(p); !impl.ProgOk(p) || got != want {
		t.Errorf("ProgOk = %v, ProgText = %q; want true, %q; of %v", impl.ProgOk(p), got, want, p)
		return
	}
	if q, at := impl.Parse(want); at != -1 || !equalProgs(p, q) || !impl.SameProg(p, q) {
		t.Errorf("Parse(%q) = %v, %d; want %v, -1", want, q, at, p)
	}
}

// checkNoProg checks that a program is not valid, and has no texts.
func checkNoProg(t *testing.T, p impl.Prog) {
	t.Helper()
	if got := impl.ProgText(p); impl.ProgOk(p) || got != "" {
		t.Errorf("ProgOk = %v, ProgText = %q; want nothing; of %v", impl.ProgOk(p), got, p)
	}
	// Of large programs only some nodes, as each of them takes a parser.
	for k := -1; k <= len(p.L); k += 1 + len(p.L)/10 {
		if got := impl.ExprText(p, k); got != "" {
			t.Errorf("ExprText(%v, %d) = %q; want nothing", p, k, got)
		}
	}
}

// checkExprTexts checks, for a valid program, the text of each expression, which
// as a condition is parsed to that expression, and that nothing else has one.
func checkExprTexts(t *testing.T, p impl.Prog) {
	t.Helper()
	for k, n := range p.L {
		got := impl.ExprText(p, k)
		if isStatement(n.Kind) {
			if got != "" {
				t.Errorf("ExprText(%v, %d) = %q; want nothing", p, k, got)
			}
			continue
		}
		x := treeIn(p, k)
		if want := text(x); got != want {
			t.Errorf("ExprText(%v, %d) = %q; want %q", p, k, got, want)
		}
		if q, at := impl.Parse(got + " { }"); at != -1 || !equalProgs(q, progOf(when(x, block()))) {
			t.Errorf("Parse(%q) = %v, %d; want %v", got+" { }", q, at, x)
		}
	}
	for _, k := range []int{math.MinInt, -mostFar, -2, -1, len(p.L), len(p.L) + 1, mostFar, math.MaxInt} {
		if got := impl.ExprText(p, k); got != "" {
			t.Errorf("ExprText(%v, %d) = %q; want nothing", p, k, got)
		}
	}
}

// mostFar is an index that no program has.
const mostFar = 1 << 32

// checkExprText checks the text of an expression by itself and in statements.
func checkExprText(t *testing.T, x *tree, want string) {
	t.Helper()
	p := progOf(when(x, block()))
	checkProg(t, p, want+" { }\n")
	checkExprTexts(t, p)
	if got := impl.ExprText(p, p.Items[0].Cond); got != want {
		t.Errorf("ExprText = %q; want %q", got, want)
	}
	checkProg(t, progOf(always(do(x))), "{ "+want+"; }\n")
	checkProg(t, progOf(begin(block(of(impl.NkPrint, x, x)))), "BEGIN { print "+want+", "+want+"; }\n")
}

func checkStatementText(t *testing.T, x *tree, want string) {
	t.Helper()
	p := progOf(always(x))
	checkProg(t, p, "{ "+want+" }\n")
	checkExprTexts(t, p)
	checkProg(t, progOf(end(block(x, of(impl.NkNext), x))), "END { "+want+" next; "+want+" }\n")
}

func TestTextOfLeaves(t *testing.T) {
	checkExprText(t, num(0), "0")
	checkExprText(t, num(12), "12")
	checkExprText(t, &tree{kind: impl.NkNum, n: 1}, "0.000001")
	checkExprText(t, &tree{kind: impl.NkNum, n: 500000}, "0.5")
	checkExprText(t, &tree{kind: impl.NkNum, n: 2500010}, "2.50001")
	checkExprText(t, &tree{kind: impl.NkNum, n: impl.MaxDec}, "9000000")
	checkExprText(t, &tree{kind: impl.NkNum, n: impl.MaxDec - 1}, "8999999.999999")
	checkExprText(t, str(""), `""`)
	checkExprText(t, str("a b"), `"a b"`)
	checkExprText(t, str("\n\t\"\\"), `"\n\t\"\\"`)
	checkExprText(t, str(`\n`), `"\\n"`)
	checkExprText(t, str("a\n\nb\"\"c\\\\"), `"a\n\nb\"\"c\\\\"`)
	checkExprText(t, str("/#'\r\x00\x7f\x80\xff\u00e9"), "\"/#'\r\x00\x7f\x80\xff\u00e9\"")
	checkExprText(t, rex("a"), "(/a/)")
	checkExprText(t, rex(""), "(//)")
	checkExprText(t, rex(`\/\\ "#\n`), `(/\/\\ "#\n/)`)
	checkExprText(t, rex("(\x00\xff\t+"), "(/(\x00\xff\t+/)")
	checkExprText(t, vari("x"), "x")
	checkExprText(t, vari("NF"), "NF")
	checkExprText(t, vari("_a9"), "_a9")
	checkExprText(t, vari(strings.Repeat("n", 40)), strings.Repeat("n", 40))
}

func TestTextOfExpressions(t *testing.T) {
	x, y, z, s := vari("x"), vari("y"), vari("z"), str("s")
	sum := of(impl.NkPlus, x, y)
	checkExprText(t, of(impl.NkField, x), "$(x)")
	checkExprText(t, of(impl.NkField, num(1)), "$(1)")
	checkExprText(t, of(impl.NkField, of(impl.NkField, sum)), "$($((x + y)))")
	checkExprText(t, of(impl.NkField, rex("r")), "$((/r/))")
	checkExprText(t, named(impl.NkElem, "A", "", x), "A[x]")
	checkExprText(t, named(impl.NkElem, "A", "", named(impl.NkElem, "B", "", sum)), "A[B[(x + y)]]")
	checkExprText(t, named(impl.NkIn, "A", "", x), "(x in A)")
	checkExprText(t, named(impl.NkIn, "A", "", named(impl.NkIn, "B", "", x)), "((x in B) in A)")
	checkExprText(t, of(impl.NkSet, x, y), "(x = y)")
	checkExprText(t, of(impl.NkSet, of(impl.NkField, x), of(impl.NkSetAdd, named(impl.NkElem, "A", "", x), y)), "($(x) = (A[x] += y))")
	checkExprText(t, of(impl.NkSetAdd, x, of(impl.NkSet, y, z)), "(x += (y = z))")
	checkExprText(t, of(impl.NkCond, x, y, z), "(x ? y : z)")
	checkExprText(t, of(impl.NkCond, of(impl.NkCond, x, y, z), of(impl.NkSet, x, y), of(impl.NkCond, x, y, z)), "((x ? y : z) ? (x = y) : (x ? y : z))")
	for kind, want := range map[int]string{
		impl.NkOr: "(x || y)", impl.NkAnd: "(x && y)", impl.NkMatch: "(x ~ y)", impl.NkNoMatch: "(x !~ y)", impl.NkLess: "(x < y)", impl.NkLessEq: "(x <= y)", impl.NkSame: "(x == y)",
		impl.NkUnlike: "(x != y)", impl.NkCat: "(x y)", impl.NkPlus: "(x + y)", impl.NkMinus: "(x - y)", impl.NkTimes: "(x * y)", impl.NkDivide: "(x / y)", impl.NkRest: "(x % y)",
	} {
		checkExprText(t, of(kind, x, y), want)
		sign := want[2 : len(want)-2]
		checkExprText(t, of(kind, of(kind, x, s), rex("r")), "((x"+sign+"\"s\")"+sign+"(/r/))")
		checkExprText(t, of(kind, x, of(kind, y, z)), "(x"+sign+"(y"+sign+"z))")
	}
	checkExprText(t, of(impl.NkNot, x), "(!x)")
	checkExprText(t, of(impl.NkNeg, x), "(-x)")
	checkExprText(t, of(impl.NkNot, of(impl.NkNeg, of(impl.NkNeg, sum))), "(!(-(-(x + y))))")
	checkExprText(t, of(impl.NkCat, x, of(impl.NkNeg, num(1))), "(x (-1))")
	checkExprText(t, of(impl.NkMinus, x, of(impl.NkNeg, num(1))), "(x - (-1))")
	checkExprText(t, of(impl.NkCat, of(impl.NkCat, vari("f"), sum), of(impl.NkField, x)), "((f (x + y)) $(x))")
	checkExprText(t, of(impl.NkCat, of(impl.NkLength), rex("r")), "(length() (/r/))")
}

func TestTextOfCalls(t *testing.T) {
	x, y, z := vari("x"), vari("y"), vari("z")
	neg := of(impl.NkNeg, x)
	checkExprText(t, named(impl.NkCall, "f", ""), "f()")
	checkExprText(t, named(impl.NkCall, "f", "", x), "f(x)")
	checkExprText(t, named(impl.NkCall, "f", "", x, neg), "f(x, (-x))")
	checkExprText(t, named(impl.NkCall, "f", "", x, y, named(impl.NkCall, "g", ""), z), "f(x, y, g(), z)")
	checkExprText(t, of(impl.NkLength), "length()")
	checkExprText(t, of(impl.NkLength, x), "length(x)")
	checkExprText(t, of(impl.NkSubstr, x, y), "substr(x, y)")
	checkExprText(t, of(impl.NkSubstr, x, neg, z), "substr(x, (-x), z)")
	checkExprText(t, of(impl.NkIndex, x, y), "index(x, y)")
	checkExprText(t, named(impl.NkSplit, "", "A", x), "split(x, A)")
	checkExprText(t, named(impl.NkSplit, "", "A", x, rex(",")), "split(x, A, (/,/))")
	checkExprText(t, of(impl.NkUpper, x), "toupper(x)")
	checkExprText(t, of(impl.NkInt, neg), "int((-x))")
}

func TestTextOfStatements(t *testing.T) {
	x, y, z, next := vari("x"), vari("y"), vari("z"), of(impl.NkNext)
	checkStatementText(t, do(x), "x;")
	checkStatementText(t, do(of(impl.NkSet, x, y)), "(x = y);")
	checkStatementText(t, do(rex("r")), "(/r/);")
	checkStatementText(t, of(impl.NkPrint), "print;")
	checkStatementText(t, of(impl.NkPrint, x), "print x;")
	checkStatementText(t, of(impl.NkPrint, x, of(impl.NkCat, y, z), z), "print x, (y z), z;")
	checkStatementText(t, of(impl.NkPrintf, str("%d\n")), `printf "%d\n";`)
	checkStatementText(t, of(impl.NkPrintf, x, y, z), "printf x, y, z;")
	checkStatementText(t, of(impl.NkIf, x, next), "if (x) next;")
	checkStatementText(t, of(impl.NkIf, of(impl.NkNot, x), next, of(impl.NkBreak)), "if ((!x)) next; else break;")
	checkStatementText(t, of(impl.NkIf, x, block(of(impl.NkIf, y, next)), of(impl.NkIf, z, next)), "if (x) { if (y) next; } else if (z) next;")
	checkStatementText(t, of(impl.NkIf, x, of(impl.NkIf, y, next, block()), of(impl.NkExit)), "if (x) if (y) next; else { } else exit;")
	checkStatementText(t, of(impl.NkWhile, x, next), "while (x) next;")
	checkStatementText(t, of(impl.NkWhile, x, of(impl.NkWhile, rex("r"), block())), "while (x) while ((/r/)) { }")
	checkStatementText(t, of(impl.NkFor, x, y, z, next), "for (x; y; z) next;")
	checkStatementText(t, of(impl.NkFor, of(impl.NkSet, x, num(0)), of(impl.NkLess, x, y), of(impl.NkSetAdd, x, num(1)), block(next)), "for ((x = 0); (x < y); (x += 1)) { next; }")
	checkStatementText(t, of(impl.NkFor, named(impl.NkIn, "A", "", x), y, z, next), "for ((x in A); y; z) next;")
	checkStatementText(t, named(impl.NkForIn, "k", "A", next), "for (k in A) next;")
	checkStatementText(t, named(impl.NkForIn, "k", "A", named(impl.NkForIn, "A", "k", do(x))), "for (k in A) for (A in k) x;")
	checkStatementText(t, of(impl.NkBreak), "break;")
	checkStatementText(t, of(impl.NkContinue), "continue;")
	checkStatementText(t, next, "next;")
	checkStatementText(t, of(impl.NkExit), "exit;")
	checkStatementText(t, of(impl.NkExit, x), "exit x;")
	checkStatementText(t, of(impl.NkReturn), "return;")
	checkStatementText(t, of(impl.NkReturn, of(impl.NkSet, x, y)), "return (x = y);")
	checkStatementText(t, named(impl.NkDelete, "A", "", x), "delete A[x];")
	checkStatementText(t, named(impl.NkDelete, "A", "", of(impl.NkNeg, x)), "delete A[(-x)];")
	checkStatementText(t, block(), "{ }")
	checkStatementText(t, block(next), "{ next; }")
	checkStatementText(t, block(next, block(), do(x)), "{ next; { } x; }")
}

func TestTextOfItems(t *testing.T) {
	next := of(impl.NkNext)
	checkProg(t, impl.Prog{}, "")
	checkProg(t, impl.Prog{L: []impl.Node{}, Items: []impl.Item{}}, "")
	checkProg(t, progOf(begin(block())), "BEGIN { }\n")
	checkProg(t, progOf(end(block(next))), "END { next; }\n")
	checkProg(t, progOf(always()), "{ }\n")
	checkProg(t, progOf(when(vari("x"), block(next))), "x { next; }\n")
	checkProg(t, progOf(when(rex("x"), block())), "(/x/) { }\n")
	checkProg(t, progOf(function("f", nil, block())), "function f() { }\n")
	checkProg(t, progOf(function("f", []string{}, block())), "function f() { }\n")
	checkProg(t, progOf(function("f", []string{"a"}, block(next))), "function f(a) { next; }\n")
	checkProg(t, progOf(function("f", []string{"a", "f", "a"}, block())), "function f(a, f, a) { }\n")
	checkProg(t, progOf(function(strings.Repeat("f", 40), []string{strings.Repeat("a", 40)}, block())), "function "+strings.Repeat("f", 40)+"("+strings.Repeat("a", 40)+") { }\n")
	checkProg(t, progOf(always(), when(vari("x"), block()), always(), end(block()), begin(block(block())), function("f", nil, block()), function("f", nil, block()), begin(block())),
		"{ }\nx { }\n{ }\nEND { }\nBEGIN { { } }\nfunction f() { }\nfunction f() { }\nBEGIN { }\n")
}

// checkSourceText parses a source and compares the text.
func checkSourceText(t *testing.T, src, want string) {
	t.Helper()
	p, at := impl.Parse(src)
	if at != -1 {
		t.Errorf("Parse(%q) reports %d", src, at)
		return
	}
	checkProg(t, p, want)
	checkExprTexts(t, p)
}

func TestTextOfSources(t *testing.T) {
	checkSourceText(t, "", "")
	checkSourceText(t, "# nothing\n", "")
	checkSourceText(t, "BEGIN{}END{}{}x{}", "BEGIN { }\nEND { }\n{ }\nx { }\n")
	checkSourceText(t, "a+b*c-d/e%f{}", "((a + (b * c)) - ((d / e) % f)) { }\n")
	checkSourceText(t, "a b c d{}", "(((a b) c) d) { }\n")
	checkSourceText(t, "a||b&&c~d<e f in A in B{}", "(a || (b && (((c ~ (d < (e f))) in A) in B))) { }\n")
	checkSourceText(t, "a=b+=c?d:e?f:g{}", "(a = (b += (c ? d : (e ? f : g)))) { }\n")
	checkSourceText(t, "-!-a $b[1] $$c{}", "(((-(!(-a))) $(b[1])) $($(c))) { }\n")
	checkSourceText(t, "f (a)f(a)length length(b){}", "((((f a) f(a)) length()) length(b)) { }\n")
	checkSourceText(t, "((a))=((b)){}", "(a = b) { }\n")
	checkSourceText(t, "/a\\/b/~/c/{print/d/,1/2;}", "((/a\\/b/) ~ (/c/)) { print (/d/), (1 / 2); }\n")
	checkSourceText(t, "{print 1.500, 0.0000019, 99999999, 007;}", "{ print 1.5, 0.000001, 9000000, 7; }\n")
	checkSourceText(t, "{if(a)if(b)c;else d;else{while(e){}}}", "{ if (a) if (b) c; else d; else { while (e) { } } }\n")
}

// kidsOf is, for each kind, a pattern of what its kids can be: e for an expression
// and s for a statement.
var kidsOf = map[int]string{
	impl.NkNum: "", impl.NkStr: "", impl.NkRe: "", impl.NkVar: "", impl.NkField: "e", impl.NkElem: "e", impl.NkIn: "e", impl.NkSet: "ee", impl.NkSetAdd: "ee", impl.NkCond: "eee",
	impl.NkOr: "ee", impl.NkAnd: "ee", impl.NkNot: "e", impl.NkMatch: "ee", impl.NkNoMatch: "ee", impl.NkLess: "ee", impl.NkLessEq: "ee", impl.NkSame: "ee", impl.NkUnlike: "ee",
	impl.NkCat: "ee", impl.NkPlus: "ee", impl.NkMinus: "ee", impl.NkTimes: "ee", impl.NkDivide: "ee", impl.NkRest: "ee", impl.NkNeg: "e",
	impl.NkCall: "e*", impl.NkLength: "e?", impl.NkSubstr: "eee?", impl.NkIndex: "ee", impl.NkSplit: "ee?", impl.NkUpper: "e", impl.NkInt: "e",
	impl.NkDo: "e", impl.NkPrint: "e*", impl.NkPrintf: "ee*", impl.NkIf: "ess?", impl.NkWhile: "es", impl.NkFor: "eees", impl.NkForIn: "s", impl.NkBreak: "", impl.NkContinue: "",
	impl.NkNext: "", impl.NkExit: "e?", impl.NkReturn: "e?", impl.NkDelete: "e", impl.NkBlock: "s*",
}

// kidsFit is kidsOf with the patterns made ready.
var kidsFit = func() map[int]*regexp.Regexp {
	all := map[int]*regexp.Regexp{}
	for kind, pattern := range kidsOf {
		all[kind] = regexp.MustCompile("^" + pattern + "$")
	}
	return all
}()

var (
	namePattern    = regexp.MustCompile(`^[A-Za-z_][A-Za-z0-9_]{0,39}$`)
	contentPattern = regexp.MustCompile(`^([^\n/\\]|\\[^\n])*$`)
)

func isName(s string) bool { return namePattern.MatchString(s) && !slices.Contains(keywords, s) }

// stringsFit reports whether a node has the strings and the number of its kind,
// and nothing else.
func stringsFit(x *tree) bool {
	s, u, n := x.s == "", x.t == "", x.n == 0
	switch x.kind {
	case impl.NkNum:
		n = x.n >= 0 && x.n <= impl.MaxDec
	case impl.NkStr:
		s = true
	case impl.NkRe:
		s = contentPattern.MatchString(x.s)
	case impl.NkVar, impl.NkElem, impl.NkIn, impl.NkCall, impl.NkDelete:
		s = isName(x.s)
	case impl.NkForIn:
		s, u = isName(x.s), isName(x.t)
	case impl.NkSplit:
		u = isName(x.t)
	}
	return s && u && n
}

func treeFits(x *tree) bool {
	kids := ""
	for _, kid := range x.kids {
		if !treeFits(kid) {
			return false
		}
		kids += map[bool]string{false: "e", true: "s"}[isStatement(kid.kind)]
	}
	if kidsFit[x.kind] == nil || !stringsFit(x) || !kidsFit[x.kind].MatchString(kids) {
		return false
	}
	switch x.kind {
	case impl.NkSet, impl.NkSetAdd:
		return slices.Contains([]int{impl.NkVar, impl.NkField, impl.NkElem}, x.kids[0].kind)
	case impl.NkIf:
		return len(x.kids) == 2 || closed(x.kids[1]) == x.kids[1]
	}
	return true
}

func ruleFits(r rule) bool {
	fits := treeFits(r.body) && r.body.kind == impl.NkBlock && r.when >= impl.WnBegin && r.when <= impl.WnFunc
	if r.when == impl.WnFunc {
		fits = fits && isName(r.name) && !slices.ContainsFunc(r.params, func(s string) bool { return !isName(s) })
	} else {
		fits = fits && r.name == "" && len(r.params) == 0
	}
	if r.when == impl.WnExpr {
		return fits && r.cond != nil && treeFits(r.cond) && !isStatement(r.cond.kind)
	}
	return fits && r.cond == nil
}

// isWhole reports whether every node follows its kids, and belongs to exactly one
// other node or item.
func isWhole(p impl.Prog) bool {
	owners := make([]int, len(p.L))
	own := func(k, end int) bool {
		if k < 0 || k >= end {
			return false
		}
		owners[k]++
		return true
	}
	for k, n := range p.L {
		for _, kid := range n.Kids {
			if !own(kid, k) {
				return false
			}
		}
	}
	for _, item := range p.Items {
		if !own(item.Body, len(p.L)) || item.Cond != -1 && !own(item.Cond, len(p.L)) {
			return false
		}
	}
	return !slices.ContainsFunc(owners, func(n int) bool { return n != 1 })
}

// wantOk decides without a parser whether a program is valid: by the kinds of
// the kids, by the strings, and by the order of the nodes.
func wantOk(t *testing.T, p impl.Prog) bool {
	t.Helper()
	if len(p.L) > impl.MaxNodes || !isWhole(p) {
		return false
	}
	rules := rulesOf(p)
	for _, r := range rules {
		if !ruleFits(r) {
			return false
		}
	}
	return equalProgs(progOf(rules...), p) && len(progText(rules)) <= impl.MaxSrc && textOver(t, rules) < 0
}

// checkJudged compares ProgOk with the conditions, and checks the texts. It
// returns whether the program is valid.
func checkJudged(t *testing.T, p impl.Prog) bool {
	t.Helper()
	ok := wantOk(t, p)
	if got := impl.ProgOk(p); got != ok {
		t.Errorf("ProgOk(%v) = %v", p, got)
	}
	if ok {
		checkProg(t, p, progText(rulesOf(p)))
	} else {
		checkNoProg(t, p)
	}
	return ok
}

func TestTextOfMadeSources(t *testing.T) {
	t.Parallel()
	parsed := 0
	for seed := range 1200 {
		w := wilds{dice: treeMaker(seed)}
		src, _ := spareText(seed, seed%2 == 0, w.rules())
		p, at := impl.Parse(src)
		if at != -1 {
			continue
		}
		parsed++
		if !checkJudged(t, p) {
			t.Errorf("%q is parsed, but not valid", src)
		}
		if len(p.L) < 200 {
			checkExprTexts(t, p)
		}
	}
	if parsed < 1000 {
		t.Errorf("only %d", parsed)
	}
}

// TestParsedOrRejected changes tokens of sources: what is parsed is valid and is
// recovered from its text, and everything else is rejected at an offset.
func TestParsedOrRejected(t *testing.T) {
	tokens := everyToken()
	parsed, rejected := 0, 0
	for seed := range 1500 {
		w := wilds{dice: treeMaker(seed)}
		src, _ := spareText(seed, false, w.rules())
		parts := strings.Fields(src)
		for range 3 {
			i := w.dice.below(len(parts) + 1)
			changed := slices.Replace(slices.Clone(parts), i, min(i+w.dice.below(2), len(parts)), tokens[w.dice.below(len(tokens))])
			src := strings.Join(changed, " ")
			p, at := impl.Parse(src)
			switch {
			case at == -1:
				parsed++
				checkProg(t, p, progText(rulesOf(p)))
			case at < 0 || at > len(src) || len(p.L) > 0 || len(p.Items) > 0:
				t.Errorf("Parse(%q) = %v, %d", src, p, at)
			default:
				rejected++
			}
		}
	}
	if parsed < 200 || rejected < 3000 {
		t.Error(parsed, rejected)
	}
}

// copyProg returns a program that shares no memory with p.
func copyProg(p impl.Prog) impl.Prog {
	q := impl.Prog{L: slices.Clone(p.L), Items: slices.Clone(p.Items)}
	for k := range q.L {
		q.L[k].Kids = slices.Clone(q.L[k].Kids)
	}
	for i := range q.Items {
		q.Items[i].Params = slices.Clone(q.Items[i].Params)
	}
	return q
}

// oddStrings are names, words, and what a text could take for something else.
var oddStrings = []string{
	"", "x", "f", "A", "_", "x9", strings.Repeat("n", 40), strings.Repeat("n", 41), "if", "length", "BEGIN", "in", "int", "1", "9x", "a b", "x ", " x", "x\n", "a.b", "x[1]", "x = 1", "x)", "(x)", "x, y",
	"f(", "x;", "x; y", "\xe9", "\u00e9", "-", "\"", "\\", `\/`, "a/b", "r/ ~ /s", "\n", "#", "\\\n", "\x00",
}

var oddNumbers = []int{0, 1, -1, impl.One, -impl.One, 1500000, impl.MaxDec, impl.MaxDec + 1, -impl.MaxDec, -impl.MaxDec - 1, math.MaxInt, math.MinInt}

// eachNodeChange calls check with p changed in one field of node k.
func eachNodeChange(p impl.Prog, k int, check func(impl.Prog)) {
	change := func(set func(n *impl.Node)) {
		q := copyProg(p)
		set(&q.L[k])
		check(q)
	}
	for kind := -2; kind < 60; kind++ {
		change(func(n *impl.Node) { n.Kind = kind })
	}
	for _, s := range oddStrings {
		change(func(n *impl.Node) { n.S = s })
		change(func(n *impl.Node) { n.T = s })
	}
	for _, n := range oddNumbers {
		change(func(x *impl.Node) { x.N = n })
		change(func(x *impl.Node) { x.Kind = n })
		change(func(x *impl.Node) { x.Kids = append(x.Kids, n) })
	}
	for i := range p.L[k].Kids {
		for kid := -2; kid < len(p.L)+2; kid++ {
			change(func(n *impl.Node) { n.Kids[i] = kid })
		}
		change(func(n *impl.Node) { n.Kids[i] = math.MaxInt })
		change(func(n *impl.Node) { n.Kids[i] = math.MinInt })
		change(func(n *impl.Node) { n.Kids = slices.Delete(n.Kids, i, i+1) })
		change(func(n *impl.Node) { n.Kids = slices.Insert(n.Kids, i, n.Kids[i]) })
		change(func(n *impl.Node) { n.Kids[0], n.Kids[i] = n.Kids[i], n.Kids[0] })
	}
	for kid := range p.L {
		change(func(n *impl.Node) { n.Kids = append(n.Kids, kid) })
		change(func(n *impl.Node) { n.Kids = slices.Insert(n.Kids, 0, kid) })
	}
	change(func(n *impl.Node) { n.Kids = nil })
}

// eachItemChange does so with item i.
func eachItemChange(p impl.Prog, i int, check func(impl.Prog)) {
	change := func(set func(item *impl.Item)) {
		q := copyProg(p)
		set(&q.Items[i])
		check(q)
	}
	for _, when := range []int{-1, 0, 1, 2, 3, 4, 5, math.MaxInt, math.MinInt} {
		change(func(item *impl.Item) { item.When = when })
	}
	for _, s := range oddStrings {
		change(func(item *impl.Item) { item.Name = s })
		change(func(item *impl.Item) { item.Params = []string{s} })
		change(func(item *impl.Item) { item.Params = append(item.Params, s) })
		change(func(item *impl.Item) { item.Params = append(item.Params, "a", s, "b") })
	}
	change(func(item *impl.Item) { item.Params = nil })
	for k := -2; k < len(p.L)+2; k++ {
		change(func(item *impl.Item) { item.Cond = k })
		change(func(item *impl.Item) { item.Body = k })
	}
	for _, k := range []int{math.MaxInt, math.MinInt} {
		change(func(item *impl.Item) { item.Cond = k })
		change(func(item *impl.Item) { item.Body = k })
	}
	change(func(item *impl.Item) { item.Cond, item.Body = item.Body, item.Cond })
}

// moved returns the program with node k at place to, and the indices set so that
// its trees are the same.
func moved(p impl.Prog, k, to int) impl.Prog {
	q := copyProg(p)
	n := q.L[k]
	q.L = slices.Insert(slices.Delete(q.L, k, k+1), to, n)
	at := func(old int) int {
		switch {
		case old == k:
			return to
		case old > k && old <= to:
			return old - 1
		case old < k && old >= to:
			return old + 1
		}
		return old
	}
	for k := range q.L {
		for i, kid := range q.L[k].Kids {
			q.L[k].Kids[i] = at(kid)
		}
	}
	for i := range q.Items {
		q.Items[i].Cond, q.Items[i].Body = at(q.Items[i].Cond), at(q.Items[i].Body)
	}
	return q
}

// eachOrderChange calls check with p with nodes or items in another order, one
// less or one more.
func eachOrderChange(p impl.Prog, check func(impl.Prog)) {
	change := func(set func(q *impl.Prog)) {
		q := copyProg(p)
		set(&q)
		check(q)
	}
	for k := range p.L {
		for to := range p.L {
			change(func(q *impl.Prog) { q.L[k], q.L[to] = q.L[to], q.L[k] })
			check(moved(p, k, to))
		}
		change(func(q *impl.Prog) { q.L = slices.Delete(q.L, k, k+1) })
		change(func(q *impl.Prog) { q.L = q.L[:k] })
		change(func(q *impl.Prog) { q.L = append(q.L, q.L[k]) })
	}
	for _, n := range []impl.Node{{}, {Kind: impl.NkVar, S: "x"}, {Kind: impl.NkBlock}, {Kind: impl.NkNext}, {Kind: -1}} {
		for to := range len(p.L) + 1 {
			change(func(q *impl.Prog) {
				q.L = append(q.L, n)
				*q = moved(*q, len(p.L), to)
			})
		}
	}
	for i := range p.Items {
		for j := range p.Items {
			change(func(q *impl.Prog) { q.Items[i], q.Items[j] = q.Items[j], q.Items[i] })
		}
		change(func(q *impl.Prog) { q.Items = slices.Delete(q.Items, i, i+1) })
		change(func(q *impl.Prog) { q.Items = append(q.Items, q.Items[i]) })
	}
	for body := -1; body <= len(p.L); body++ {
		change(func(q *impl.Prog) { q.Items = append(q.Items, impl.Item{When: impl.WnAll, Cond: -1, Body: body}) })
	}
}

func TestProgOkOfChangedPrograms(t *testing.T) {
	t.Parallel()
	valid, not := 0, 0
	check := func(p impl.Prog) {
		if checkJudged(t, p) {
			valid++
		} else {
			not++
		}
	}
	for _, src := range []string{
		"", "{}", "BEGIN { next; } END { }", "x { }", "function f(a, b) { return a; } f(1) { }", "function f() { } function g(a) { } {}",
		"x[1] = $y += 2.5 { print; print x, \"s\"; printf \"a\\n\"; }", "x in A ? /r/ : !-y { delete A[x]; }", "length length(x) substr(x, y) { }", "substr(x, y, z) < index(x, y) { }",
		"split(x, A) + split(y, B, z) * toupper(x) - int(y) / 1 % f() { }", "f(x, y) ~ g(z) !~ x || y && z { }", "x <= y { exit; exit 1; return; }", "(x == y) != (x < y) { }",
		"{ if (x) next; if (x) break; else continue; }", "{ if (x) if (y) next; else break; else { } }", "{ if (x) { if (y) next; } else break; while (x) next; }", "{ if (x) while (y) if (z) next; else break; }",
		"{ if (x) for (k in A) if (y) { } else next; else z; }", "{ for (x; y; z) next; for (k in A) { x; } }", "{ { } { next; { } } }", "{ x y; x $1; x; } { print 0.5; }", "x in A in B { (x = y); }",
	} {
		p, at := impl.Parse(src)
		if at != -1 {
			t.Fatal(src, at)
		}
		check(p)
		for k := range p.L {
			eachNodeChange(p, k, check)
		}
		for i := range p.Items {
			eachItemChange(p, i, check)
		}
		eachOrderChange(p, check)
	}
	if valid < 3000 || not < 40000 {
		t.Error(valid, not)
	}
}

// TestProgOkOfTwiceChangedPrograms changes made programs in two places.
func TestProgOkOfTwiceChangedPrograms(t *testing.T) {
	t.Parallel()
	dice := treeMaker(5)
	valid := 0
	for seed := range 300 {
		w := wilds{dice: treeMaker(seed)}
		p := progOf(w.rules()...)
		if len(p.L) == 0 || len(p.L) > 300 {
			continue
		}
		for range 10 {
			q := copyProg(p)
			for range 2 {
				n := &q.L[dice.below(len(q.L))]
				switch dice.below(4) {
				case 0:
					n.Kind = dice.below(impl.NkBlock + 1)
				case 1:
					n.S = oddStrings[dice.below(len(oddStrings))]
				case 2:
					n.T = oddStrings[dice.below(len(oddStrings))]
				case 3:
					n.N = oddNumbers[dice.below(len(oddNumbers))]
				}
			}
			if checkJudged(t, q) {
				valid++
			}
		}
	}
	if valid < 10 {
		t.Error(valid)
	}
}

// randomProg makes a program of any nodes, of which about half the fields are
// like those of a valid one.
func randomProg(dice *treeMaker) impl.Prog {
	var p impl.Prog
	for k := range dice.below(8) {
		n := impl.Node{Kind: dice.below(impl.NkBlock+3) - 1}
		if dice.below(2) == 0 {
			n.S = oddStrings[dice.below(len(oddStrings))]
		}
		for range dice.below(4) {
			n.Kids = append(n.Kids, k-1-dice.below(2)+dice.below(4)/3)
		}
		p.L = append(p.L, n)
	}
	for range dice.below(3) {
		p.Items = append(p.Items, impl.Item{When: dice.below(6), Cond: dice.below(3) - 1, Body: len(p.L) - 1 - dice.below(3)/2})
	}
	return p
}

func TestProgOkOfRandomPrograms(t *testing.T) {
	dice := treeMaker(9)
	valid := 0
	for range 100000 {
		if checkJudged(t, randomProg(&dice)) {
			valid++
		}
	}
	if valid < 100 {
		t.Error(valid)
	}
}

func TestProgOkOfChosenPrograms(t *testing.T) {
	x, next := impl.Node{Kind: impl.NkVar, S: "x"}, impl.Node{Kind: impl.NkNext}
	kids := func(kind int, kids ...int) impl.Node { return impl.Node{Kind: kind, Kids: kids} }
	all := func(body int, l ...impl.Node) impl.Prog {
		return impl.Prog{L: l, Items: []impl.Item{{When: impl.WnAll, Cond: -1, Body: body}}}
	}
	checkProg(t, all(2, x, kids(impl.NkDo, 0), kids(impl.NkBlock, 1)), "{ x; }\n")
	checkProg(t, all(0, impl.Node{Kind: impl.NkBlock, Kids: []int{}}), "{ }\n")
	checkNoProg(t, impl.Prog{L: []impl.Node{x}})
	checkNoProg(t, impl.Prog{L: []impl.Node{kids(impl.NkBlock)}})
	checkNoProg(t, impl.Prog{Items: []impl.Item{{}}})
	checkNoProg(t, impl.Prog{Items: []impl.Item{{When: impl.WnAll, Cond: -1, Body: -1}}})
	checkNoProg(t, all(0, x))
	checkNoProg(t, all(0, next))
	checkNoProg(t, all(1, kids(impl.NkBlock), kids(impl.NkBlock)))
	checkNoProg(t, all(0, kids(impl.NkBlock, 0)))
	checkNoProg(t, all(1, kids(impl.NkBlock, 1), kids(impl.NkBlock, 0)))
	checkNoProg(t, all(0, kids(impl.NkBlock, 1), next))
	checkNoProg(t, all(1, next, kids(impl.NkBlock, 0, 0)))
	checkNoProg(t, all(2, next, kids(impl.NkBlock, 0), kids(impl.NkBlock, 0, 1)))
	checkNoProg(t, all(2, x, kids(impl.NkNeg, 0), kids(impl.NkBlock, 1)))
	checkNoProg(t, all(3, next, kids(impl.NkNeg, 0), kids(impl.NkDo, 1), kids(impl.NkBlock, 2)))
	checkNoProg(t, all(2, impl.Node{N: -impl.One}, kids(impl.NkDo, 0), kids(impl.NkBlock, 1)))
	checkNoProg(t, all(2, impl.Node{N: impl.MaxDec + 1}, kids(impl.NkDo, 0), kids(impl.NkBlock, 1)))
	checkNoProg(t, all(1, impl.Node{N: impl.MaxDec + 1}, kids(impl.NkPrint, 0), kids(impl.NkBlock, 1)))
	two := progOf(always(), always())
	two.Items[1].Body = 0
	checkNoProg(t, two)
	two = progOf(when(vari("x"), block()), when(vari("x"), block()))
	two.Items[1].Cond = 0
	checkNoProg(t, two)
	self := progOf(when(vari("x"), block()))
	self.Items[0].Cond = self.Items[0].Body
	checkNoProg(t, self)
	for _, cond := range []int{-2, -1, 2, 3, math.MaxInt, math.MinInt} {
		self.Items[0].Cond = cond
		checkNoProg(t, self)
	}
}

// checkJudgedAs checks whether the program of the rules is valid, and compares
// that with what is expected.
func checkJudgedAs(t *testing.T, want bool, rules ...rule) {
	t.Helper()
	if got := checkJudged(t, progOf(rules...)); got != want {
		t.Errorf("%q: %v", progText(rules), got)
	}
}

func TestProgOkAtMaxSrc(t *testing.T) {
	a, x := strings.Repeat("a", 40), vari("x")
	fills := map[string]func(n int) rule{
		"string": func(n int) rule { return when(str(strings.Repeat("s", n-len("\"\" { }\n"))), block()) },
		"escapes": func(n int) rule {
			return when(str(strings.Repeat("\"", (n-7)/2)+strings.Repeat("s", (n-7)%2)), block())
		},
		"regexp": func(n int) rule {
			return when(rex(strings.Repeat("r", n-len("(//) { }\n"))), block())
		},
		"params": func(n int) rule {
			n -= len("function f() { }\n") + 1
			return function("f", append(slices.Repeat([]string{"a"}, n/3), a[:n%3+1]), block())
		},
		"long params": func(n int) rule {
			n -= len("function f() { }\n") + 1
			l := slices.Repeat([]string{a}, n/42)
			if n%42 < 40 {
				l = append(l, a[:n%42+1])
			} else {
				l = append(l, "a", a[:n%42-2])
			}
			return function("f", l, block())
		},
	}
	for name, fill := range fills {
		for n := impl.MaxSrc - 5; n <= impl.MaxSrc+5; n++ {
			r := fill(n)
			if got := len(progText([]rule{r})); got != n {
				t.Errorf("%s: %d bytes in place of %d", name, got, n)
			}
			checkJudgedAs(t, n <= impl.MaxSrc, r)
		}
	}
	for seed := range 200 {
		w := wilds{dice: treeMaker(seed)}
		rules := w.rules()
		size := len(progText(rules)) + len("\"\" { }\n")
		if size < impl.MaxSrc-5 && textOver(t, rules) < 0 {
			for n := impl.MaxSrc - 1; n <= impl.MaxSrc+1; n++ {
				checkJudgedAs(t, n <= impl.MaxSrc, append([]rule{when(str(strings.Repeat("s", n-size)), block())}, rules...)...)
			}
		}
	}
	names := func(n int) rule { return always(of(impl.NkPrint, slices.Repeat([]*tree{vari(a)}, n)...)) }
	checkJudgedAs(t, true, names(95))
	checkJudgedAs(t, false, names(95), always())
	checkJudgedAs(t, false, names(96))
	checkJudgedAs(t, false, names(798))
	checkJudgedAs(t, true, always(slices.Repeat([]*tree{do(x)}, 399)...))
}

func TestProgOkAtMaxNodes(t *testing.T) {
	zeros := func(n int) rule { return always(of(impl.NkPrint, slices.Repeat([]*tree{num(0)}, n)...)) }
	breaks := func(n int) rule { return always(slices.Repeat([]*tree{block()}, n)...) }
	blocks := func(n int) []rule { return slices.Repeat([]rule{always()}, n) }
	checkJudgedAs(t, true, zeros(impl.MaxNodes-2))
	checkJudgedAs(t, false, zeros(impl.MaxNodes-1))
	checkJudgedAs(t, false, zeros(impl.MaxNodes+100))
	checkJudgedAs(t, true, breaks(impl.MaxNodes-1))
	checkJudgedAs(t, false, breaks(impl.MaxNodes))
	checkJudgedAs(t, true, blocks(impl.MaxNodes)...)
	checkJudgedAs(t, false, blocks(impl.MaxNodes+1)...)
	checkExprTexts(t, progOf(zeros(20)))
}

func TestProgOkAtMaxDeep(t *testing.T) {
	t.Parallel()
	for name, nest := range nestings() {
		for _, x := range []*tree{vari("x"), rex("r"), named(impl.NkCall, "f", ""), of(impl.NkNext), of(impl.NkPrint, num(1)), block()} {
			if isStatement(x.kind) != isStatement(nest(x).kind) {
				continue
			}
			last := 0
			for n := range 45 {
				for _, place := range placings()[:2] {
					if n > 1 && n < 10 {
						continue // all are valid
					}
					r := always(x)
					if !isStatement(x.kind) {
						r = place(x)
					}
					if checkJudged(t, progOf(r)) {
						last = n
					}
				}
				x = nest(x)
			}
			if last < 10 || last > 40 {
				t.Errorf("%s: %d are not too deep", name, last)
			}
		}
	}
	for _, place := range placings() {
		for n := 35; n < 42; n++ {
			x := vari("x")
			for range n {
				x = named(impl.NkElem, "A", "", x)
			}
			checkJudged(t, progOf(place(x)))
		}
	}
}

// checkSoon checks that an invalid program is judged soon, whatever its size.
func checkSoon(t *testing.T, name string, p impl.Prog) {
	t.Helper()
	start := time.Now()
	if impl.ProgOk(p) || impl.ProgText(p) != "" || impl.ExprText(p, 0) != "" {
		t.Errorf("%s: is valid", name)
	}
	if past := time.Since(start); past > 5*time.Second {
		t.Errorf("%s: takes %v", name, past)
	}
}

func TestProgOkOfHugePrograms(t *testing.T) {
	t.Parallel()
	const many = 1000000
	long := strings.Repeat("s", 1<<24)
	empty := make([]string, 10*many)
	ascending := make([]int, many)
	for i := range ascending {
		ascending[i] = i
	}
	checkSoon(t, "zero nodes", impl.Prog{L: make([]impl.Node, many)})
	checkSoon(t, "zero items", impl.Prog{Items: make([]impl.Item, many)})
	checkSoon(t, "zero nodes and items", impl.Prog{L: make([]impl.Node, many), Items: make([]impl.Item, many)})
	breaks := impl.Prog{Items: []impl.Item{{When: impl.WnAll, Cond: -1, Body: many}}}
	breaks.L = append(slices.Repeat([]impl.Node{{Kind: impl.NkBreak}}, many), impl.Node{Kind: impl.NkBlock, Kids: ascending})
	checkSoon(t, "many statements", breaks)
	chain := impl.Prog{L: make([]impl.Node, many), Items: []impl.Item{{When: impl.WnExpr, Cond: many - 2, Body: many - 1}}}
	for k := range chain.L {
		chain.L[k] = impl.Node{Kind: impl.NkNeg, Kids: ascending[max(k-1, 0):k]}
	}
	chain.L[0] = impl.Node{Kind: impl.NkVar, S: "x"}
	chain.L[many-1] = impl.Node{Kind: impl.NkBlock}
	checkSoon(t, "deep expression", chain)
	for kind := -1; kind <= impl.NkBlock+1; kind++ {
		p := progOf(always(of(impl.NkPrint, slices.Repeat([]*tree{str("")}, impl.MaxNodes-2)...)))
		q, r := copyProg(p), copyProg(p)
		for k := range p.L {
			p.L[k] = impl.Node{Kind: kind, S: long, T: long}
			q.L[k] = impl.Node{Kind: kind, Kids: []int{k - 1, k - 1}}
			r.L[k] = impl.Node{Kind: kind, Kids: ascending}
		}
		checkSoon(t, "long strings", p)
		checkSoon(t, "kids shared at each level", q)
		checkSoon(t, "many kids", r)
		p.L[len(p.L)-2].Kids = ascending[:len(p.L)-2]
		p.L[len(p.L)-1].Kids = ascending[len(p.L)-2 : len(p.L)-1]
		checkSoon(t, "long strings of kids", p)
		chain := slices.Clone(p.L)
		for k := range chain {
			chain[k] = impl.Node{Kind: kind, S: strings.Repeat("n", 40), Kids: []int{k - 1}}
		}
		chain[0].Kids = nil
		checkSoon(t, "chain", impl.Prog{L: chain, Items: []impl.Item{{When: impl.WnAll, Cond: -1, Body: len(chain) - 1}}})
	}
	items := progOf(slices.Repeat([]rule{function("f", nil, block())}, impl.MaxNodes)...)
	checkSoon(t, "long parameters", progOf(function("f", slices.Repeat([]string{long}, 3900), block())))
	for _, params := range [][]string{empty, slices.Repeat([]string{long}, 1000), slices.Repeat([]string{"a"}, 3000), slices.Repeat([]string{strings.Repeat("a", 3000)}, 4000)} {
		p := copyProg(items)
		for i := range p.Items {
			p.Items[i].Params = params
			p.Items[i].Name = long
		}
		checkSoon(t, "long names", p)
		for i := range p.Items {
			p.Items[i].Name = "f"
		}
		checkSoon(t, "many parameters", p)
	}
}

// spoiled returns p with slices that have spare capacity, and a function that
// reports whether p and the spare capacity are as they were.
func spoiled(p impl.Prog) (impl.Prog, func() bool) {
	kept := copyProg(p)
	q := copyProg(p)
	mark := impl.Node{Kind: impl.NkStr, S: "spare"}
	q.L = append(q.L, mark, mark)[:len(p.L)]
	q.Items = append(q.Items, impl.Item{Name: "spare"})[:len(p.Items)]
	for k := range q.L {
		q.L[k].Kids = append(q.L[k].Kids, -77)[:len(p.L[k].Kids)]
	}
	for i := range q.Items {
		q.Items[i].Params = append(q.Items[i].Params, "spare")[:len(p.Items[i].Params)]
	}
	return q, func() bool {
		same := equalProgs(q, kept) && equalNodes(q.L[:len(q.L)+1][len(q.L)], mark) && q.Items[:len(q.Items)+1][len(q.Items)].Name == "spare"
		for _, n := range q.L {
			same = same && n.Kids[:len(n.Kids)+1][len(n.Kids)] == -77
		}
		for _, item := range q.Items {
			same = same && item.Params[:len(item.Params)+1][len(item.Params)] == "spare"
		}
		return same
	}
}

func TestTextLeavesArgumentsUnchanged(t *testing.T) {
	progs := []impl.Prog{{}, sampleProg()}
	for seed := range 100 {
		w := wilds{dice: treeMaker(seed)}
		progs = append(progs, progOf(w.rules()...))
	}
	dice := treeMaker(3)
	for range 1000 {
		progs = append(progs, randomProg(&dice))
	}
	for _, p := range progs {
		q, same := spoiled(p)
		ok, whole := impl.ProgOk(q), impl.ProgText(q)
		for k := -1; k <= len(q.L); k++ {
			impl.ExprText(q, k)
		}
		if !same() {
			t.Errorf("%v is changed to %v", p, q)
		}
		if ok != impl.ProgOk(q) || whole != impl.ProgText(q) {
			t.Errorf("%v is judged anew", p)
		}
	}
}

func TestTextIsNew(t *testing.T) {
	src := "function alpha(beta) { print gamma, \"delta\", /epsilon/; }"
	p, _ := impl.Parse(src)
	whole := impl.ProgText(p)
	for k, n := range p.L {
		if x := impl.ExprText(p, k); sharesBytes(x, n.S) || sharesBytes(x, src) || sharesBytes(x, whole) || sharesBytes(whole, n.S) {
			t.Errorf("%q shares its bytes", x)
		}
	}
	one := progOf(when(vari("gamma"), block()))
	if x := impl.ExprText(one, 0); x != "gamma" || sharesBytes(x, one.L[0].S) {
		t.Errorf("%q shares its bytes", x)
	}
}
