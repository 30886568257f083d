package tests

import (
	"slices"
	"strings"
	"testing"

	"loop.example/g00700/impl"
)

func checkParse(t *testing.T, src string, rules ...rule) {
	t.Helper()
	want := progOf(rules...)
	p, at := impl.Parse(src)
	if at != -1 || !equalProgs(p, want) {
		t.Errorf("Parse(%q) = %v, %d; want %v, -1", src, p, at, want)
		return
	}
	checkWhole(t, src, p)
}

func checkNoParse(t *testing.T, src string, at int) {
	t.Helper()
	p, k := impl.Parse(src)
	if k != at || len(p.L) != 0 || len(p.Items) != 0 {
		t.Errorf("Parse(%q) = %v, %d; want nothing, %d", src, p, k, at)
	}
}

// checkRefused takes sources with a mark ^ before what is reported.
func checkRefused(t *testing.T, marked ...string) {
	t.Helper()
	for _, m := range marked {
		before, behind, found := strings.Cut(m, "^")
		if !found {
			t.Errorf("%q has no mark", m)
		}
		checkNoParse(t, before+behind, len(before))
	}
}

// checkExpr parses an expression as the condition of an item and as a statement.
func checkExpr(t *testing.T, src string, want *tree) {
	t.Helper()
	checkParse(t, src+" { }", when(want, block()))
	checkParse(t, "{"+src+";}", always(do(want)))
}

// checkExprRefused takes expressions with a mark as that of checkRefused. Where
// it is at the end, more must follow.
func checkExprRefused(t *testing.T, marked ...string) {
	t.Helper()
	for _, m := range marked {
		checkRefused(t, m, "{ "+m, "{ print x, "+m)
		if !strings.HasSuffix(m, "^") {
			checkRefused(t, m+" { }", "{ "+m+"; }")
		}
	}
}

func checkStatement(t *testing.T, src string, want *tree) {
	t.Helper()
	checkParse(t, "{"+src+"}", always(want))
	checkParse(t, "BEGIN { next; "+src+" next; }", begin(block(of(impl.NkNext), want, of(impl.NkNext))))
}

func TestParseNodesInOrder(t *testing.T) {
	p, at := impl.Parse("f(1, x) {\n\tif ($y) A[2] += \"s\";\n}\nfunction g(a, b) { }\n")
	want := impl.Prog{
		L: []impl.Node{
			{Kind: impl.NkNum, N: impl.One},
			{Kind: impl.NkVar, S: "x"},
			{Kind: impl.NkCall, S: "f", Kids: []int{0, 1}},
			{Kind: impl.NkVar, S: "y"},
			{Kind: impl.NkField, Kids: []int{3}},
			{Kind: impl.NkNum, N: 2 * impl.One},
			{Kind: impl.NkElem, S: "A", Kids: []int{5}},
			{Kind: impl.NkStr, S: "s"},
			{Kind: impl.NkSetAdd, Kids: []int{6, 7}},
			{Kind: impl.NkDo, Kids: []int{8}},
			{Kind: impl.NkIf, Kids: []int{4, 9}},
			{Kind: impl.NkBlock, Kids: []int{10}},
			{Kind: impl.NkBlock},
		},
		Items: []impl.Item{
			{When: impl.WnExpr, Cond: 2, Body: 11},
			{When: impl.WnFunc, Name: "g", Params: []string{"a", "b"}, Cond: -1, Body: 12},
		},
	}
	if at != -1 || !equalProgs(p, want) {
		t.Fatalf("Parse = %v, %d; want %v, -1", p, at, want)
	}
}

func TestParseItems(t *testing.T) {
	next := of(impl.NkNext)
	checkParse(t, "")
	checkParse(t, " \n# nothing\n")
	checkParse(t, "BEGIN{}", begin(block()))
	checkParse(t, "END { next; }", end(block(next)))
	checkParse(t, "{ }", always())
	checkParse(t, "x { }", when(vari("x"), block()))
	checkParse(t, "x = 1 { }", when(of(impl.NkSet, vari("x"), num(1)), block()))
	checkParse(t, "/r/ { }", when(rex("r"), block()))
	checkParse(t, "{ } /r/ { } /s/{}", always(), when(rex("r"), block()), when(rex("s"), block()))
	checkParse(t, "END { } BEGIN { } END { }", end(block()), begin(block()), end(block()))
	checkParse(t, "{} {} x {} {}", always(), always(), when(vari("x"), block()), always())
	checkParse(t, "function f() { }", function("f", nil, block()))
	checkParse(t, "function f () { }", function("f", nil, block()))
	checkParse(t, "function f # x\n(a) { }", function("f", []string{"a"}, block()))
	checkParse(t, "function f(a,b , c) { next; }", function("f", []string{"a", "b", "c"}, block(next)))
	checkParse(t, "function f(f, f) { } function f() { }", function("f", []string{"f", "f"}, block()), function("f", nil, block()))
	checkParse(t, "f(1) { } function f(a) { }", when(named(impl.NkCall, "f", "", num(1)), block()), function("f", []string{"a"}, block()))
	// What is only allowed by what surrounds it is a matter of later layers.
	checkParse(t, "BEGIN { break; continue; return 1; $0 = NF = f(); }", begin(block(of(impl.NkBreak), of(impl.NkContinue), of(impl.NkReturn, num(1)),
		do(of(impl.NkSet, of(impl.NkField, num(0)), of(impl.NkSet, vari("NF"), named(impl.NkCall, "f", "")))))))
}

func TestParseItemsRefused(t *testing.T) {
	checkRefused(t,
		"BEGIN^", "BEGIN ^END { }", "BEGIN ^BEGIN { }", "BEGIN ^x { }", "BEGIN ^; { }", "BEGIN ^( { }", "BEGIN { } ^}", "BEGIN { } ^;", "BEGIN { } ^)",
		"END^", "END ^; ", "END ^1 { }", "END { ^BEGIN { } }",
		"function^", "function ^1", "function ^{ }", "function ^length(x) { }", "function ^BEGIN() { }", "function ^\"f\"() { }", "function ^(a) { }", "function ^/f/",
		"function f^", "function f ^{ }", "function f ^a", "function f ^[", "function f ^1", "function f ^g(",
		"function f(^", "function f(^,", "function f(^1) { }", "function f(^() { }", "function f(^\"a\") { }", "function f(^in) { }", "function f(^a()) { }", "function f(^$a) { }",
		"function f(a^", "function f(a ^b) { }", "function f(a ^[", "function f(a ^; b) { }", "function f(a,^", "function f(a, ^) { }", "function f(a, ^,", "function f(a, ^1", "function f(a, ^g(", "function f(a, b^;",
		"function f()^", "function f() ^;", "function f() ^x { }", "function f() ^function", "function f() ^(", "function f(a) { } ^;",
		"{^", "{ {^", "{ { \n# x^", "x^", "x # x\n^", "x ^;", "x ^}", "x ^BEGIN { }", "x ^)", "x ^, y { }", "x ^function", "x { } ^}",
		"^} { }", "^; { }", "^else { }", "^print 1;", "^in { }", "^if (x) { }", "^, { }", "^) { }", "^] { }", "^= { }", "^* x { }", "^~ /r/ { }", "{ } ^next; { }",
	)
}

func TestParseStatements(t *testing.T) {
	next, x, y := of(impl.NkNext), vari("x"), vari("y")
	checkStatement(t, "{ }", block())
	checkStatement(t, "{ next; { } next; }", block(next, block(), next))
	checkStatement(t, "if (x) next;", of(impl.NkIf, x, next))
	checkStatement(t, "if (x) { } else next;", of(impl.NkIf, x, block(), next))
	checkStatement(t, "while (x) next;", of(impl.NkWhile, x, next))
	checkStatement(t, "while ((x)) { next; }", of(impl.NkWhile, x, block(next)))
	checkStatement(t, "print;", of(impl.NkPrint))
	checkStatement(t, "print x;", of(impl.NkPrint, x))
	checkStatement(t, "print x, y, 1;", of(impl.NkPrint, x, y, num(1)))
	checkStatement(t, "print (x), (y);", of(impl.NkPrint, x, y))
	checkStatement(t, "print x = y, /r/;", of(impl.NkPrint, of(impl.NkSet, x, y), rex("r")))
	checkStatement(t, "printf x;", of(impl.NkPrintf, x))
	checkStatement(t, "printf \"%d\", x, y;", of(impl.NkPrintf, str("%d"), x, y))
	checkStatement(t, "break;", of(impl.NkBreak))
	checkStatement(t, "continue;", of(impl.NkContinue))
	checkStatement(t, "next;", next)
	checkStatement(t, "exit;", of(impl.NkExit))
	checkStatement(t, "exit x;", of(impl.NkExit, x))
	checkStatement(t, "exit x = y;", of(impl.NkExit, of(impl.NkSet, x, y)))
	checkStatement(t, "return;", of(impl.NkReturn))
	checkStatement(t, "return (x);", of(impl.NkReturn, x))
	checkStatement(t, "return -x;", of(impl.NkReturn, of(impl.NkNeg, x)))
	checkStatement(t, "delete A[x];", named(impl.NkDelete, "A", "", x))
	checkStatement(t, "delete A [ x = y ] ;", named(impl.NkDelete, "A", "", of(impl.NkSet, x, y)))
	checkStatement(t, "x;", do(x))
	checkStatement(t, "x = y;", do(of(impl.NkSet, x, y)))
	checkStatement(t, "/r/;", do(rex("r")))
}

func TestParseStatementsRefused(t *testing.T) {
	checkRefused(t,
		"{ ^;", "{ ^; }", "{ ^else next; }", "{ ^in x; }", "{ ^BEGIN { } }", "{ ^END", "{ ^function f() { } }", "{ ^) }", "{ ^] }", "{ ^, }", "{ ^= }", "{ ^: }", "{ ^[1]; }",
		"{ if^", "{ if ^x", "{ if ^{", "{ if (^", "{ if (^)", "{ if (x^", "{ if (x^;", "{ if (x ^, y) next; }", "{ if (x)^", "{ if (x) ^}", "{ if (x) ^;", "{ if (x) ^else", "{ if (x) next ^}", "{ if (x) next^",
		"{ if (x) next;^", "{ if (x) next; else^", "{ if (x) next; else ^}", "{ if (x) next; else ^;", "{ if (x) next; else ^else", "{ if (x) next; else next; ^else next; }", "{ if (x) { } ^; }", "{ if (x) { } else { } ^; }", "{ if (x) next; ^) }",
		"{ while^", "{ while ^x", "{ while (^", "{ while (^)", "{ while (x^", "{ while (x^;", "{ while (x)^", "{ while (x) ^;", "{ while (x) ^}", "{ while (x) next; ^else next; }",
		"{ print^", "{ print ^}", "{ print x^", "{ print x ^}", "{ print ^,", "{ print x,^", "{ print x, ^;", "{ print x, ^, y;", "{ print (x ^, y); }", "{ print ^print;", "{ print x ^print", "{ print ^)", "{ print ^in", "{ print ^{",
		"{ printf^", "{ printf ^;", "{ printf ^}", "{ printf ^, x;", "{ printf x^", "{ printf x,^", "{ printf x, ^;", "{ printf x ^print",
		"{ break^", "{ break ^}", "{ break ^x;", "{ break ^1;", "{ continue^", "{ continue ^}", "{ continue ^(", "{ next^", "{ next ^}", "{ next ^next", "{ next ^f(",
		"{ exit^", "{ exit ^}", "{ exit ^next;", "{ exit x^", "{ exit x ^}", "{ exit x ^, y;", "{ exit (^)", "{ return^", "{ return ^}", "{ return ^,", "{ return x^", "{ return x ^}", "{ return x ^, y;",
		"{ delete^", "{ delete ^;", "{ delete ^1", "{ delete ^(", "{ delete ^A(", "{ delete ^length", "{ delete ^$1", "{ delete A^", "{ delete A ^;", "{ delete A ^(x)", "{ delete A[^", "{ delete A[^]", "{ delete A[x^",
		"{ delete A[x ^;", "{ delete A[x ^, y]", "{ delete A[x]^", "{ delete A[x] ^}", "{ delete A[x]^[", "{ delete A[x] ^, B[x];", "{ delete A[x] ^= 1;",
		"{ x^", "{ x ^}", "{ x ^, y; }", "{ x ^next", "{ x^)", "{ x^]", "{ x ^: y", "{ x ^{", "{ x ^if", "{ x; ^else", "{ x; ^;",
	)
}

func TestParseElseBelongsToTheNearestIf(t *testing.T) {
	x, y, next, leave := vari("x"), vari("y"), of(impl.NkNext), of(impl.NkBreak)
	inner := of(impl.NkIf, y, next, leave)
	checkStatement(t, "if (x) if (y) next; else break;", of(impl.NkIf, x, inner))
	checkStatement(t, "if (x) while (x) if (y) next; else break;", of(impl.NkIf, x, of(impl.NkWhile, x, inner)))
	checkStatement(t, "if (x) for (k in A) if (y) next; else break;", of(impl.NkIf, x, named(impl.NkForIn, "k", "A", inner)))
	checkStatement(t, "if (x) for (x; x; x) if (y) next; else break;", of(impl.NkIf, x, of(impl.NkFor, x, x, x, inner)))
	checkStatement(t, "if (x) if (y) next; else break; else next;", of(impl.NkIf, x, inner, next))
	checkStatement(t, "if (x) { if (y) next; } else break;", of(impl.NkIf, x, block(of(impl.NkIf, y, next)), leave))
	checkStatement(t, "if (x) next; else if (y) next; else break;", of(impl.NkIf, x, next, inner))
	checkStatement(t, "if (x) next; else if (y) next;", of(impl.NkIf, x, next, of(impl.NkIf, y, next)))
	checkParse(t, "{ if (x) next; if (y) next; else break; }", always(of(impl.NkIf, x, next), inner))
	checkRefused(t, "{ if (x) if (y) next; else break; else next; ^else next; }", "{ if (x) { next; } else { break; } ^else { } }")
}

func TestParseFor(t *testing.T) {
	x, next := vari("x"), of(impl.NkNext)
	in := named(impl.NkIn, "A", "", vari("k"))
	checkStatement(t, "for (k in A) next;", named(impl.NkForIn, "k", "A", next))
	checkStatement(t, "for(k in k){}", named(impl.NkForIn, "k", "k", block()))
	checkStatement(t, "for (k in A) for (j in B) x;", named(impl.NkForIn, "k", "A", named(impl.NkForIn, "j", "B", do(x))))
	checkStatement(t, "for (x = 1; x < 3; x += 2) next;", of(impl.NkFor, of(impl.NkSet, x, num(1)), of(impl.NkLess, x, num(3)), of(impl.NkSetAdd, x, num(2)), next))
	checkStatement(t, "for (1; 2; 3) { next; }", of(impl.NkFor, num(1), num(2), num(3), block(next)))
	checkStatement(t, "for (k in A; 2; 3) next;", of(impl.NkFor, in, num(2), num(3), next))
	checkStatement(t, "for ((k in A); k in A; k in A) next;", of(impl.NkFor, in, in, in, next))
	checkStatement(t, "for (k in A in A; 2; 3) next;", of(impl.NkFor, named(impl.NkIn, "A", "", in), num(2), num(3), next))
	checkStatement(t, "for (k in A && 1; 2; 3) next;", of(impl.NkFor, of(impl.NkAnd, in, num(1)), num(2), num(3), next))
	checkStatement(t, "for (k in A ? 1 : 2; 2; 3) next;", of(impl.NkFor, of(impl.NkCond, in, num(1), num(2)), num(2), num(3), next))
	checkRefused(t,
		"{ for^", "{ for ^k", "{ for ^{", "{ for ^f(k in A) next; }", "{ for (^", "{ for (^)", "{ for (^;", "{ for (^in", "{ for (k^", "{ for (k^)", "{ for (k ^, j", "{ for (k in^", "{ for (k in ^)", "{ for (k in ^1", "{ for (k in ^(A))", "{ for (k in ^A(",
		"{ for (k in A^", "{ for (k in A ^, B", "{ for (k in A ^[", "{ for (k in A ^A", "{ for (k in A ^+", "{ for (k in A ^{", "{ for (k in A)^", "{ for (k in A) ^}", "{ for (k in A) ^;", "{ for (k in A) next ^}", "{ for (k in A) next; ^else",
		"{ for ((k in A)^) next; }", "{ for ($k in A^) next; }", "{ for (k[1] in A^) next; }", "{ for (1 in A^) next; }", "{ for (k() in A^) next; }", "{ for (k in A in A^) next; }", "{ for (\"k\" in A^) next; }",
		"{ for (k in A;^", "{ for (k in A; ^)", "{ for (1;^", "{ for (1; ^;", "{ for (1; 2^", "{ for (1; 2^)", "{ for (1; 2;^", "{ for (1; 2; ^)", "{ for (1; 2; 3^", "{ for (1; 2; 3^;", "{ for (1; 2; 3 ^, 4", "{ for (1; 2; 3)^",
		"{ for (1; 2; 3) ^;", "{ for (1; 2; 3) ^}", "{ for (1 ^, 2; 3; 4)", "{ for (1 ^) next; }",
	)
}

func TestParseLevels(t *testing.T) {
	var kinds []int
	for kind := range impl.NkDo {
		if binary(kind) {
			kinds = append(kinds, kind)
		}
	}
	if len(kinds) != 14 {
		t.Fatal(kinds)
	}
	x, y, z := vari("x"), vari("y"), vari("z")
	for _, a := range kinds {
		first := "x" + signTexts[a] + "y"
		checkExpr(t, first, of(a, x, y))
		for _, b := range kinds {
			second := signTexts[b] + "z"
			checkExpr(t, "("+first+")"+second, of(b, of(a, x, y), z))
			checkExpr(t, "x"+signTexts[b]+"("+first+")", of(b, x, of(a, x, y)))
			switch {
			case level(b) > level(a):
				checkExpr(t, first+second, of(a, x, of(b, y, z)))
			case level(a) == level(impl.NkLess) && level(b) == level(impl.NkLess):
				checkExprRefused(t, first+" ^"+second[1:])
			default:
				checkExpr(t, first+second, of(b, of(a, x, y), z))
			}
		}
	}
}

func TestParseLevelOfIn(t *testing.T) {
	x, y := vari("x"), vari("y")
	in := func(e *tree) *tree { return named(impl.NkIn, "A", "", e) }
	checkExpr(t, "x in A", in(x))
	checkExpr(t, "x in A in A in A", in(in(in(x))))
	checkExpr(t, "(x in A) + 1", of(impl.NkPlus, in(x), num(1)))
	checkExpr(t, "x in A ? y : x in A", of(impl.NkCond, in(x), y, in(x)))
	for kind, sign := range signTexts {
		if level(kind) < level(impl.NkIn) {
			checkExpr(t, "x"+sign+"y in A", of(kind, x, in(y)))
		} else {
			checkExpr(t, "x"+sign+"y in A", in(of(kind, x, y)))
		}
		if kind == impl.NkOr || kind == impl.NkAnd {
			checkExpr(t, "x in A"+sign+"y", of(kind, in(x), y))
		} else {
			checkExprRefused(t, "x in A ^"+strings.TrimSpace(sign)+"y")
		}
	}
	checkExprRefused(t,
		"x in^", "x in ^1", "x in ^\"A\"", "x in ^(A)", "x in ^$A", "x in ^A(1)", "x in ^length", "x in ^in A", "x in ^/A/", "x in A^[1]", "x in A ^(1)", "x in A ^1", "x in A ^f()", "x in A ^!y", "^in A", "(^in A)", "x + ^in A")
}

func TestParseUnary(t *testing.T) {
	x, y := vari("x"), vari("y")
	for kind, sign := range map[int]string{impl.NkNeg: "-", impl.NkNot: "!"} {
		u := func(e *tree) *tree { return of(kind, e) }
		checkExpr(t, sign+"x", u(x))
		checkExpr(t, sign+sign+"x", u(u(x)))
		checkExpr(t, "-"+sign+"!x", of(impl.NkNeg, u(of(impl.NkNot, x))))
		checkExpr(t, sign+"(x + y)", u(of(impl.NkPlus, x, y)))
		checkExpr(t, sign+"$x", u(of(impl.NkField, x)))
		checkExpr(t, sign+"x[y]", u(named(impl.NkElem, "x", "", y)))
		checkExpr(t, sign+"f(y)", u(named(impl.NkCall, "f", "", y)))
		checkExpr(t, sign+"/r/", u(rex("r")))
		checkExpr(t, sign+"x in A", named(impl.NkIn, "A", "", u(x)))
		checkExpr(t, sign+"x ? y : "+sign+"y", of(impl.NkCond, u(x), y, u(y)))
		for other, text := range signTexts {
			if level(other) == 1 {
				checkExpr(t, "x"+text+sign+"y", of(other, x, u(y)))
				continue
			}
			checkExpr(t, sign+"x"+text+"y", of(other, u(x), y))
			if other != impl.NkCat {
				checkExpr(t, "x"+text+sign+"y", of(other, x, u(y)))
			}
		}
		checkExprRefused(t, sign+"^", sign+"^)", sign+"^* x", sign+"^% x", sign+" ^= 1", sign+"^in A", sign+"^, x", sign+"^print", sign+"x ^= 1", sign+"x ^+= 1", "("+sign+"x) ^= 1")
	}
}

func TestParseConditional(t *testing.T) {
	a, b, c, d, e := vari("a"), vari("b"), vari("c"), vari("d"), vari("e")
	cond := func(x, y, z *tree) *tree { return of(impl.NkCond, x, y, z) }
	checkExpr(t, "a ? b : c", cond(a, b, c))
	checkExpr(t, "a ? b : c ? d : e", cond(a, b, cond(c, d, e)))
	checkExpr(t, "a ? b ? c : d : e", cond(a, cond(b, c, d), e))
	checkExpr(t, "(a ? b : c) ? d : e", cond(cond(a, b, c), d, e))
	checkExpr(t, "a ? b = c : d", cond(a, of(impl.NkSet, b, c), d))
	checkExpr(t, "a ? b : c = d", cond(a, b, of(impl.NkSet, c, d)))
	checkExpr(t, "a = b ? c : d", of(impl.NkSet, a, cond(b, c, d)))
	checkExpr(t, "a || b ? c || d : e || a", cond(of(impl.NkOr, a, b), of(impl.NkOr, c, d), of(impl.NkOr, e, a)))
	checkExpr(t, "(a ? b : c) + d", of(impl.NkPlus, cond(a, b, c), d))
	checkExprRefused(t,
		"a ?^", "a ? ^: b", "a ? ^? b", "a ? b^", "a ? b ^, c", "a ? b ^; c", "a ? b ? c : d ^, e", "a ? b :^", "a ? b : ^: c", "a ? b : ^? c", "a ? b : c ^: d", "^? a : b", "a ^: b", "(a ? b^)", "a ? b : 1 ^= 2", "(a ? b : c) ^= d", "1 ? 2 : 3 ^+= 4")
}

func TestParseAssignments(t *testing.T) {
	x, y, z, one := vari("x"), vari("y"), vari("z"), num(1)
	field := func(e *tree) *tree { return of(impl.NkField, e) }
	elem := func(e *tree) *tree { return named(impl.NkElem, "x", "", e) }
	for kind, sign := range map[int]string{impl.NkSet: "=", impl.NkSetAdd: "+="} {
		set := func(a, b *tree) *tree { return of(kind, a, b) }
		checkExpr(t, "x "+sign+" 1", set(x, one))
		checkExpr(t, "x"+sign+"y"+sign+"z", set(x, set(y, z)))
		checkExpr(t, "x = y "+sign+" z = 1", of(impl.NkSet, x, set(y, of(impl.NkSet, z, one))))
		checkExpr(t, "$1"+sign+"y", set(field(one), y))
		checkExpr(t, "$x[1]"+sign+"y", set(field(elem(one)), y))
		checkExpr(t, "$$x"+sign+"y", set(field(field(x)), y))
		checkExpr(t, "x[1]"+sign+"y", set(elem(one), y))
		checkExpr(t, "(x)"+sign+"y", set(x, y))
		checkExpr(t, "((x[1]))"+sign+"y", set(elem(one), y))
		checkExpr(t, "($x)"+sign+"y", set(field(x), y))
		checkExpr(t, "x"+sign+"1 || y", set(x, of(impl.NkOr, one, y)))
		checkExpr(t, "x"+sign+"1 in y", set(x, named(impl.NkIn, "y", "", one)))
		checkExpr(t, "1 + (x "+sign+" y)", of(impl.NkPlus, one, set(x, y)))
		checkExpr(t, "f(x "+sign+" y)", named(impl.NkCall, "f", "", set(x, y)))
		checkExpr(t, "x[x "+sign+" y]", elem(set(x, y)))
		for _, other := range []string{
			"1", "\"x\"", "/x/", "x + y", "1 + x", "x y", "x $1", "x * x", "-x", "!x", "x < y", "x == y", "x ~ y", "x in y", "x && y", "x || y", "x ? y : 1", "f()", "f(x)",
			"length", "length()", "length(x)", "substr(x, y)", "index(x, y)", "split(x, y)", "toupper(x)", "int(x)", "(x = y)", "(x += y)", "(1)", "(x y)", "(-x)", "x = 1", "x += y z", "x = -y", "$x y",
		} {
			checkExprRefused(t, other+" ^"+sign+" 1")
		}
		checkExprRefused(t, "x "+sign+"^", "x "+sign+" ^= 1", "x "+sign+" ^+= 1", "^"+sign+" 1", "x "+sign+" ^in y", "(x "+sign+"^)", "$^"+sign+" 1", "x "+sign+" 1 ^"+sign+" 2")
	}
}

func TestParseConcatenation(t *testing.T) {
	x, y, one := vari("x"), vari("y"), num(1)
	cat := func(a, b *tree) *tree { return of(impl.NkCat, a, b) }
	checkExpr(t, "x 1", cat(x, one))
	checkExpr(t, "1 1", cat(one, one))
	checkExpr(t, "x \"s\"", cat(x, str("s")))
	checkExpr(t, "x\"s\"y", cat(cat(x, str("s")), y))
	checkExpr(t, "x y", cat(x, y))
	checkExpr(t, "x y[1]", cat(x, named(impl.NkElem, "y", "", one)))
	checkExpr(t, "x f()", cat(x, named(impl.NkCall, "f", "")))
	checkExpr(t, "x length", cat(x, of(impl.NkLength)))
	checkExpr(t, "length length", cat(of(impl.NkLength), of(impl.NkLength)))
	checkExpr(t, "x substr(x, y)", cat(x, of(impl.NkSubstr, x, y)))
	checkExpr(t, "x index(x, y)", cat(x, of(impl.NkIndex, x, y)))
	checkExpr(t, "x split(x, y)", cat(x, named(impl.NkSplit, "", "y", x)))
	checkExpr(t, "x toupper(x)", cat(x, of(impl.NkUpper, x)))
	checkExpr(t, "x int(x)", cat(x, of(impl.NkInt, x)))
	checkExpr(t, "x (y)", cat(x, y))
	checkExpr(t, "(x)(y)", cat(x, y))
	checkExpr(t, "x (/r/)", cat(x, rex("r")))
	checkExpr(t, "/r/ x", cat(rex("r"), x))
	checkExpr(t, "x $1", cat(x, of(impl.NkField, one)))
	checkExpr(t, "x (-1)", cat(x, of(impl.NkNeg, one)))
	checkExpr(t, "x (!y)", cat(x, of(impl.NkNot, y)))
	checkExpr(t, "x -1", of(impl.NkMinus, x, one))
	checkExpr(t, "x /1", of(impl.NkDivide, x, one))
	checkExpr(t, "x - 1 y * 1 1", cat(cat(of(impl.NkMinus, x, one), of(impl.NkTimes, y, one)), one))
	checkExpr(t, "x y - 1", cat(x, of(impl.NkMinus, y, one)))
	checkExpr(t, "x y 1", cat(cat(x, y), one))
	for _, word := range keywords {
		if word == "in" || slices.Contains([]string{"length", "substr", "index", "split", "toupper", "int"}, word) {
			continue
		}
		checkExprRefused(t, "1 ^"+word, "(^"+word, "x = ^"+word)
	}
	checkExprRefused(t, "1 ^!", "1 ^[", "1 ^]", "1 ^:", "1 ^=", "1 ^)", "1 ^!x", "length ^/r/", "x length ^/r/", "$length ^/r/")
	checkRefused(t, "x ^!y { }", "{ 1 ^[2]; }", "{ x ^{ } }", "{ x ^, y; }", "x ^; { }")
}

func TestParsePrimaries(t *testing.T) {
	x, y, one := vari("x"), vari("y"), num(1)
	field := func(e *tree) *tree { return of(impl.NkField, e) }
	checkExpr(t, "0", num(0))
	checkExpr(t, "2.5", &tree{kind: impl.NkNum, n: 2500000})
	checkExpr(t, "99999999999", &tree{kind: impl.NkNum, n: impl.MaxDec})
	checkExpr(t, `"a\n\t\"\\"`, str("a\n\t\"\\"))
	checkExpr(t, `""`, str(""))
	checkExpr(t, `/a\/b/`, rex(`a\/b`))
	checkExpr(t, `//`, rex(""))
	checkExpr(t, `/(/`, rex("("))
	checkExpr(t, "x ~ /r/", of(impl.NkMatch, x, rex("r")))
	checkExpr(t, "/r/ ~ /s/", of(impl.NkMatch, rex("r"), rex("s")))
	checkExpr(t, "/r/ + /s/ * 1", of(impl.NkPlus, rex("r"), of(impl.NkTimes, rex("s"), one)))
	checkExpr(t, "/r/ / 1", of(impl.NkDivide, rex("r"), one))
	checkExpr(t, "(x)", x)
	checkExpr(t, "(((x + 1)))", of(impl.NkPlus, x, one))
	checkExpr(t, "(x = 1)", of(impl.NkSet, x, one))
	checkExpr(t, "$1", field(one))
	checkExpr(t, "$$x", field(field(x)))
	checkExpr(t, "$x[1]", field(named(impl.NkElem, "x", "", one)))
	checkExpr(t, "$x 1", of(impl.NkCat, field(x), one))
	checkExpr(t, "$x + 1", of(impl.NkPlus, field(x), one))
	checkExpr(t, "$(x + 1)", field(of(impl.NkPlus, x, one)))
	checkExpr(t, "$(-1)", field(of(impl.NkNeg, one)))
	checkExpr(t, "$f(1)", field(named(impl.NkCall, "f", "", one)))
	checkExpr(t, "$length", field(of(impl.NkLength)))
	checkExpr(t, "$length(x)", field(of(impl.NkLength, x)))
	checkExpr(t, "$/r/", field(rex("r")))
	checkExpr(t, "$\"s\"", field(str("s")))
	checkExpr(t, "x[y[1]]", named(impl.NkElem, "x", "", named(impl.NkElem, "y", "", one)))
	checkExpr(t, "x [ y = 1 ]", named(impl.NkElem, "x", "", of(impl.NkSet, y, one)))
	checkExpr(t, "f()", named(impl.NkCall, "f", ""))
	checkExpr(t, "f( # x\n)", named(impl.NkCall, "f", ""))
	checkExpr(t, "f(x)", named(impl.NkCall, "f", "", x))
	checkExpr(t, "f(x, y = 1, g(), 1)", named(impl.NkCall, "f", "", x, of(impl.NkSet, y, one), named(impl.NkCall, "g", ""), one))
	checkExpr(t, "f (x)", of(impl.NkCat, vari("f"), x))
	checkExprRefused(t,
		"(^", "(^)", "(x^", "(x ^, y)", "(x ^]", "(x ^}", "($^", "$^-1", "$^!x", "$^)", "$^+ 1", "$^in", "$^print", "$^[1]", "x[^", "x[^]", "x[1^", "x[1 ^, 2]", "x[1 ^)", "x[1]^[2]", "(x)^[1]", "f(x)^[1]", "$x[1]^[2]", "1^[1]",
		"f(^", "f(^,", "f(x^", "f(x ^; y)", "f(x,^", "f(x, ^)", "f(x, ^,", "f(x ^]", "f(^]", "f (^)", "^]", "^)", "^* 1", "^% 2", "^, 1", "^: 1", "^< 1", "^== 1", "^~ x", "^&& x", "^|| x", "^+ x")
}

func TestParseBuiltins(t *testing.T) {
	x, y, z, one := vari("x"), vari("y"), vari("z"), num(1)
	checkExpr(t, "length", of(impl.NkLength))
	checkExpr(t, "length()", of(impl.NkLength))
	checkExpr(t, "length (\n)", of(impl.NkLength))
	checkExpr(t, "length(x)", of(impl.NkLength, x))
	checkExpr(t, "length (x) (y)", of(impl.NkCat, of(impl.NkLength, x), y))
	checkExpr(t, "length () (y)", of(impl.NkCat, of(impl.NkLength), y))
	checkExpr(t, "length (x) + 1", of(impl.NkPlus, of(impl.NkLength, x), one))
	checkExpr(t, "length + 1", of(impl.NkPlus, of(impl.NkLength), one))
	checkExpr(t, "length - 1", of(impl.NkMinus, of(impl.NkLength), one))
	checkExpr(t, "length x", of(impl.NkCat, of(impl.NkLength), x))
	checkExpr(t, "length $1", of(impl.NkCat, of(impl.NkLength), of(impl.NkField, one)))
	checkExpr(t, "length() / 1", of(impl.NkDivide, of(impl.NkLength), one))
	checkExpr(t, "(length) (x)", of(impl.NkCat, of(impl.NkLength), x))
	checkExpr(t, "length(x = /r/)", of(impl.NkLength, of(impl.NkSet, x, rex("r"))))
	checkExpr(t, "substr(x, y)", of(impl.NkSubstr, x, y))
	checkExpr(t, "substr (x = 1, y, z)", of(impl.NkSubstr, of(impl.NkSet, x, one), y, z))
	checkExpr(t, "index(x, y)", of(impl.NkIndex, x, y))
	checkExpr(t, "index((x), -y)", of(impl.NkIndex, x, of(impl.NkNeg, y)))
	checkExpr(t, "split(x, y)", named(impl.NkSplit, "", "y", x))
	checkExpr(t, "split (x = 1, y)", named(impl.NkSplit, "", "y", of(impl.NkSet, x, one)))
	checkExpr(t, "split(x, y, z)", named(impl.NkSplit, "", "y", x, z))
	checkExpr(t, "split(x, x, /r/)", named(impl.NkSplit, "", "x", x, rex("r")))
	checkExpr(t, "toupper(x y)", of(impl.NkUpper, of(impl.NkCat, x, y)))
	checkExpr(t, "int (x)", of(impl.NkInt, x))
	for _, word := range []string{"substr", "index", "split", "toupper", "int"} {
		checkExprRefused(t, word+"^", word+" ^x", word+" ^+ 1", word+" ^[1]", word+" ^$1", word+"(^", word+"(^)", word+"(^,", word+"(x^", word+"(x ^; y)", word+"(x ^]")
	}
	checkExprRefused(t,
		"length(^", "length(^,", "length(x^", "length(x ^, y)", "length(x ^;", "length ^= 1", "length ^[1]", "length ^!x", "length ^/ 2/", "length()^[1]",
		"substr(x^)", "substr(x,^", "substr(x, ^)", "substr(x, ^,", "substr(x, y^", "substr(x, y ^; z)", "substr(x, y,^", "substr(x, y, ^)", "substr(x, y, z^", "substr(x, y, z ^, x)",
		"index(x^)", "index(x, ^)", "index(x, y^", "index(x, y ^, z)", "index(x, y ^;",
		"split(x^)", "split(x,^", "split(x, ^)", "split(x, ^1)", "split(x, ^(y))", "split(x, ^$y)", "split(x, ^\"y\")", "split(x, ^y())", "split(x, ^length)", "split(x, ^-y)", "split(x, y^", "split(x, y^[1])", "split(x, y ^z)", "split(x, y ^+ z)",
		"split(x, y,^", "split(x, y, ^)", "split(x, y, z^", "split(x, y, z ^, 1)", "split(x, y ^;",
		"toupper(x ^, y)", "int(x ^, y)")
}

func TestParseWhereLexFails(t *testing.T) {
	checkRefused(t, "^@", "{ x ^@ }", "{ ) ^@", "BEGIN ^\"", "x = = ^\"a", "{ } ^.5", "} } ^& x", "else ^/a", "{ x ^|", "{ = = ^"+strings.Repeat("n", 41)+" }", "{ length ^/ 2; }")
	checkNoParse(t, "{ }"+strings.Repeat(" ", impl.MaxSrc-2), 0)
	checkNoParse(t, "{ ) "+strings.Repeat(" ", impl.MaxSrc), 0)
	checkParse(t, "{ }"+strings.Repeat(" ", impl.MaxSrc-3), always())
	checkNoParse(t, "{"+strings.Repeat(" ", impl.MaxSrc-1), impl.MaxSrc)
	all := make([]byte, 256)
	for b := range all {
		all[b] = byte(b)
		src := string(all[b : b+1])
		if _, at := impl.Lex(src); at >= 0 {
			checkNoParse(t, src, at)
			checkNoParse(t, "{ } "+src, 4+at)
			checkNoParse(t, "} "+src, 2+at)
		}
	}
	checkNoParse(t, string(all), 0)
}

// checkSource parses a source of which the tree is known, and the offset at which
// it is too deep, or -1.
func checkSource(t *testing.T, src string, over int, rules []rule) {
	t.Helper()
	want := progOf(rules...)
	switch {
	case len(src) > impl.MaxSrc:
		checkNoParse(t, src, 0)
	case over >= 0:
		checkNoParse(t, src, over)
	case len(want.L) > impl.MaxNodes || len(progText(rules)) > impl.MaxSrc || textOver(t, rules) >= 0:
		checkNoParse(t, src, len(src))
	default:
		checkParse(t, src, rules...)
	}
}

// checkTexts parses the canonical text and others of the same program.
func checkTexts(t *testing.T, seed int, rules []rule) {
	t.Helper()
	checkSource(t, progText(rules), textOver(t, rules), rules)
	for _, loose := range []bool{false, true} {
		src, over := spareText(seed, loose, rules)
		checkSource(t, src, over, rules)
	}
}

func TestParseMadeTrees(t *testing.T) {
	count := map[int]int{}
	for seed := range 3000 {
		w := wilds{dice: treeMaker(seed)}
		rules := w.rules()
		checkTexts(t, seed, rules)
		for _, n := range progOf(rules...).L {
			count[n.Kind]++
		}
	}
	for kind := range impl.NkBlock + 1 {
		if count[kind] < 100 && (kind <= impl.NkInt || kind >= impl.NkDo) {
			t.Errorf("only %d nodes of kind %d", count[kind], kind)
		}
	}
}

// nestings put a tree into one more.
func nestings() map[string]func(*tree) *tree {
	one, next := num(1), of(impl.NkNext)
	all := map[string]func(*tree) *tree{
		"field":   func(x *tree) *tree { return of(impl.NkField, x) },
		"elem":    func(x *tree) *tree { return named(impl.NkElem, "A", "", x) },
		"in":      func(x *tree) *tree { return named(impl.NkIn, "A", "", x) },
		"not":     func(x *tree) *tree { return of(impl.NkNot, x) },
		"neg":     func(x *tree) *tree { return of(impl.NkNeg, x) },
		"cond 1":  func(x *tree) *tree { return of(impl.NkCond, x, one, one) },
		"cond 2":  func(x *tree) *tree { return of(impl.NkCond, one, x, one) },
		"cond 3":  func(x *tree) *tree { return of(impl.NkCond, one, one, x) },
		"call":    func(x *tree) *tree { return named(impl.NkCall, "f", "", x) },
		"call 2":  func(x *tree) *tree { return named(impl.NkCall, "f", "", one, x, one) },
		"length":  func(x *tree) *tree { return of(impl.NkLength, x) },
		"substr":  func(x *tree) *tree { return of(impl.NkSubstr, x, one) },
		"substr3": func(x *tree) *tree { return of(impl.NkSubstr, one, one, x) },
		"index":   func(x *tree) *tree { return of(impl.NkIndex, one, x) },
		"split":   func(x *tree) *tree { return named(impl.NkSplit, "", "A", x) },
		"split 3": func(x *tree) *tree { return named(impl.NkSplit, "", "A", one, x) },
		"upper":   func(x *tree) *tree { return of(impl.NkUpper, x) },
		"int":     func(x *tree) *tree { return of(impl.NkInt, x) },
		"set":     func(x *tree) *tree { return of(impl.NkSet, vari("x"), x) },
		"add":     func(x *tree) *tree { return of(impl.NkSetAdd, vari("x"), x) },
		"set to":  func(x *tree) *tree { return of(impl.NkSet, named(impl.NkElem, "A", "", x), one) },
		"add to":  func(x *tree) *tree { return of(impl.NkSetAdd, of(impl.NkField, x), one) },
		"block":   func(x *tree) *tree { return block(next, asStatement(x), next) },
		"if":      func(x *tree) *tree { return of(impl.NkIf, one, asStatement(x)) },
		"else":    func(x *tree) *tree { return of(impl.NkIf, one, next, asStatement(x)) },
		"while":   func(x *tree) *tree { return of(impl.NkWhile, one, asStatement(x)) },
		"for":     func(x *tree) *tree { return of(impl.NkFor, one, one, one, asStatement(x)) },
		"for in":  func(x *tree) *tree { return named(impl.NkForIn, "k", "A", asStatement(x)) },
	}
	for kind, sign := range signTexts {
		if level(kind) > 1 {
			all[sign+"left"] = func(x *tree) *tree { return of(kind, x, one) }
			all[sign+"right"] = func(x *tree) *tree { return of(kind, one, x) }
		}
	}
	return all
}

func asStatement(x *tree) *tree {
	if isStatement(x.kind) {
		return x
	}
	return do(x)
}

// placings put an expression or a statement into a program.
func placings() []func(*tree) rule {
	one := num(1)
	statements := []func(*tree) *tree{
		do,
		func(e *tree) *tree { return of(impl.NkPrint, one, e) },
		func(e *tree) *tree { return of(impl.NkPrintf, e) },
		func(e *tree) *tree { return of(impl.NkExit, e) },
		func(e *tree) *tree { return of(impl.NkReturn, e) },
		func(e *tree) *tree { return named(impl.NkDelete, "A", "", e) },
		func(e *tree) *tree { return of(impl.NkIf, e, block(), block()) },
		func(e *tree) *tree { return of(impl.NkWhile, e, block()) },
		func(e *tree) *tree { return of(impl.NkFor, e, one, one, block()) },
		func(e *tree) *tree { return of(impl.NkFor, one, e, one, block()) },
		func(e *tree) *tree { return of(impl.NkFor, one, one, e, block()) },
	}
	all := []func(*tree) rule{func(e *tree) rule { return when(e, block()) }}
	for _, s := range statements {
		all = append(all, func(e *tree) rule { return begin(block(s(e))) })
	}
	return all
}

func TestParseDepths(t *testing.T) {
	places := placings()
	for name, nest := range nestings() {
		for seed, x := range []*tree{vari("x"), rex("r"), named(impl.NkCall, "f", ""), of(impl.NkNext), of(impl.NkPrint, num(1)), block()} {
			if isStatement(x.kind) != isStatement(nest(x).kind) {
				continue
			}
			for n := range 45 {
				if isStatement(x.kind) {
					checkTexts(t, seed, []rule{function("f", nil, block(x, x))})
				} else {
					checkTexts(t, seed, []rule{places[n%2*(n/2%len(places))](x)})
				}
				x = nest(x)
			}
			rules := []rule{always(asStatement(x))}
			if p, _ := impl.Parse(progText(rules)); len(p.L) > 0 {
				t.Errorf("%s: 45 are not too deep", name)
			}
		}
	}
}

func TestParseDepthOfEachPlace(t *testing.T) {
	for _, place := range placings() {
		for n := 35; n < 42; n++ {
			x := vari("x")
			for range n {
				x = named(impl.NkElem, "A", "", x)
			}
			checkTexts(t, n, []rule{place(x)})
		}
	}
}

// checkMost parses sources with that part repeated: up to most times they are
// accepted, and then what is reported stands at the same offset, or at the end
// of the source if that is negative.
func checkMost(t *testing.T, most int, before, open, middle, shut, behind string, at int) {
	t.Helper()
	for n := range most + 4 {
		src := before + strings.Repeat(open, n) + middle + strings.Repeat(shut, n) + behind
		switch _, k := impl.Parse(src); {
		case n <= most && k != -1:
			t.Errorf("Parse(%q) reports %d; want -1", src, k)
		case n > most && at < 0:
			checkNoParse(t, src, len(src))
		case n > most:
			checkNoParse(t, src, at)
		}
	}
}

func TestParseMostDepth(t *testing.T) {
	checkMost(t, 40, "{ ", "{", "", "}", " }", 2+40)
	checkMost(t, 39, "function f() { ", "{", "next;", "}", " }", 15+40)
	checkMost(t, 39, "{ ", "{", "print;", "}", " }", 2+40)
	checkMost(t, 39, "{ ", "if (x) ", "next;", "", " }", 2+39*7+4)
	checkMost(t, 39, "{ ", "if (x) next; else ", "next;", "", " }", 2+39*18+4)
	checkMost(t, 39, "{ ", "while (x) ", "next;", "", " }", 2+39*10+7)
	checkMost(t, 39, "{ ", "for (x; x; x) ", "next;", "", " }", 2+39*14+5)
	checkMost(t, 39, "{ ", "for (k in A) ", "next;", "", " }", 2+40*13)
	checkMost(t, 39, "", "(", "x", ")", " { }", 40)
	checkMost(t, 38, "{ ", "(", "x", ")", "; }", 2+39)
	checkMost(t, 38, "{ print 1, ", "(", "x", ")", "; }", 11+39)
	checkMost(t, 37, "{ { exit ", "(", "x", ")", "; } }", 9+38)
	checkMost(t, 39, "", "A[", "x", "]", " { }", 80)
	checkMost(t, 39, "", "f(", "x", ")", " { }", 80)
	checkMost(t, 39, "", "f(", "f()", ")", " { }", 80)
	checkMost(t, 39, "", "f(1, ", "x", ")", " { }", 39*5+2)
	checkMost(t, 39, "", "length(", "length", ")", " { }", 280)
}

func TestParseDepthOffsets(t *testing.T) {
	checkNoParse(t, strings.Repeat("{", 4000), 41)
	checkNoParse(t, strings.Repeat("(", 4000), 40)
	checkNoParse(t, strings.Repeat("(", 39), 39)
	checkNoParse(t, strings.Repeat("(", 40)+")", 40)
	checkNoParse(t, strings.Repeat("-", 4000), 40)
	checkNoParse(t, strings.Repeat("- ", 40)+"x { }", 80)
	checkNoParse(t, strings.Repeat("- ", 39)+"+ { }", 78)
	checkNoParse(t, strings.Repeat("!-", 20)+"(x) { }", 40)
	checkNoParse(t, strings.Repeat("$", 4000), 40)
	checkNoParse(t, strings.Repeat("$", 40)+"- { }", 40)
	checkNoParse(t, strings.Repeat("$", 39)+"- { }", 39)
	checkNoParse(t, "{ "+strings.Repeat("-", 39)+"x; }", 41)
	checkNoParse(t, strings.Repeat("x = ", 40)+"1 { }", 160)
	checkNoParse(t, strings.Repeat("x += ", 39)+"(1) { }", 39*5+1)
	checkNoParse(t, strings.Repeat("x ? 1 : ", 39)+"x ? 1 : 1 { }", 39*8+4)
	loops := "{ " + strings.Repeat("for (k in A) ", 39)
	for _, marked := range []string{"for (^1; 1; 1) next; }", "for (^(k in A)) next; }", "for (k in A) ^next; }", "if (^x) next; }", "while (^x) next; }", "print ^x; }", "print ^) }", "print ; ^)", "print ;^", "exit ^(x); }", "return ^-x; }", "printf ^;", "delete A[^1]; }", "delete ^1;", "^", "{ ^{ } }", "^x; }", "^;"} {
		checkRefused(t, loops+marked)
	}
	for _, leaf := range []string{"next;", "print;", "exit;", "return;", "break;", "continue;", "{ }"} {
		if p, at := impl.Parse(loops + leaf + " }"); at != -1 {
			t.Errorf("Parse = %v, %d", p, at)
		}
	}
}

func TestParseDepthFallsAgain(t *testing.T) {
	for _, part := range []string{"{ }", "if (-x) next; else { }", "while ($x) next;", "for (k in A) A[1];", "for ((1); 2; 3) next;", "print (x), (y);", "delete A[-x];", "exit (x);", "x = y = 1 ? 2 : 3;", "f((1), A[2], g());", "!x;", "$$x;", "split((x), A, y);"} {
		src := "{ " + strings.Repeat(part+" ", 50) + "}"
		if p, at := impl.Parse(src); at != -1 || len(p.L[len(p.L)-1].Kids) != 50 {
			t.Errorf("Parse(%q) reports %d", src, at)
		}
	}
	src := strings.Repeat("(x) { } ", 50)
	if p, at := impl.Parse(src); at != -1 || len(p.Items) != 50 {
		t.Errorf("Parse(%q) reports %d", src, at)
	}
}

func TestParseTextTooDeep(t *testing.T) {
	checkMost(t, 39, "", "1 + ", "1", "", " { }", -1)
	checkMost(t, 39, "", "x ", "x", "", " { }", -1)
	checkMost(t, 38, "{ ", "x && ", "x", "", "; }", -1)
	checkMost(t, 38, "", "/r/ ~ ", "/r/", "", " { }", -1)
	checkMost(t, 39, "", "", "x", " in A", " { }", -1)
	checkMost(t, 19, "", "-", "x", "", " { }", -1)
	checkMost(t, 19, "", "!", "x", "", " { }", -1)
	checkMost(t, 19, "", "$", "x", "", " { }", -1)
	checkMost(t, 19, "", "x = ", "1", "", " { }", -1)
	checkMost(t, 19, "", "x ? 1 : ", "1", "", " { }", -1)
	checkMost(t, 19, "{ ", "x += ", "1", "", "; }", -1)
}

func TestParseMaxNodes(t *testing.T) {
	zeros := func(n int) string { return "{ print 0" + strings.Repeat(",0", n-1) + "; }" }
	p, at := impl.Parse(zeros(impl.MaxNodes - 2))
	if at != -1 || len(p.L) != impl.MaxNodes || len(p.Items) != 1 {
		t.Errorf("%d nodes: %d", len(p.L), at)
	}
	for n := impl.MaxNodes - 1; n < impl.MaxNodes+20; n++ {
		checkNoParse(t, zeros(n), len(zeros(n)))
	}
	blocks := strings.Repeat("{}", impl.MaxNodes)
	if p, at := impl.Parse(blocks); at != -1 || len(p.L) != impl.MaxNodes || len(p.Items) != impl.MaxNodes {
		t.Errorf("%d nodes: %d", len(p.L), at)
	}
	checkNoParse(t, blocks+"{}", len(blocks)+2)
	checkNoParse(t, blocks+"{} # x\n", len(blocks)+7)
	// What cannot be continued, and what is no token, is mentioned first.
	checkNoParse(t, blocks+"{} { ) }", len(blocks)+5)
	checkNoParse(t, ") "+blocks+"{}", 0)
	checkNoParse(t, blocks+"{} { ) } @", len(blocks)+9)
	checkNoParse(t, strings.Repeat("1 ", 1000)+"; { }", 2000)
	checkNoParse(t, strings.Repeat("1 ", 1999)+"{}", 4000)
}

// checkLength parses sources of which the text has from two bytes less than
// MaxSrc to two more. What fills them takes fewer bytes in the source.
func checkLength(t *testing.T, rules []rule) {
	t.Helper()
	short, over := spareText(0, false, rules)
	if over >= 0 || textOver(t, rules) >= 0 {
		return
	}
	for more := -2; more <= 2; more++ {
		n := impl.MaxSrc + more - len("\"\" { }\n") - len(progText(rules))
		fill := strings.Repeat("\t", n/2) + strings.Repeat("a", n%2)
		all := append([]rule{when(str(fill), block())}, rules...)
		if got := len(progText(all)); got != impl.MaxSrc+more {
			t.Fatal(got)
		}
		src := "\"" + fill + "\"{}" + short
		if more <= 0 {
			checkParse(t, src, all...)
		} else {
			checkNoParse(t, src, len(src))
		}
	}
}

func TestParseTextTooLong(t *testing.T) {
	checkLength(t, nil)
	for seed := range 300 {
		w := wilds{dice: treeMaker(seed)}
		checkLength(t, w.rules())
	}
	for _, nest := range nestings() {
		for _, x := range []*tree{vari("x"), of(impl.NkNext)} {
			if isStatement(x.kind) == isStatement(nest(x).kind) {
				checkLength(t, []rule{always(asStatement(nest(x)), asStatement(nest(nest(x))))})
			}
		}
	}
	for i := range 4 {
		checkLength(t, []rule{function("f", []string{"a", "bc", "d"}[:i], block())})
		checkLength(t, []rule{always(of(impl.NkPrint, []*tree{num(1), num(2), num(3)}[:i]...))})
		checkLength(t, []rule{when(named(impl.NkCall, "f", "", []*tree{num(1), num(2), num(3)}[:i]...), block())})
		checkLength(t, []rule{begin(block([]*tree{of(impl.NkNext), of(impl.NkExit), block()}[:i]...))})
	}
	// 999 bytes that become too many, and a source of MaxSrc bytes.
	checkNoParse(t, strings.Repeat("{}", 999)+"{}", 2000)
	checkNoParse(t, "{}"+strings.Repeat(" ", 3996)+")"+" ", 3998)
}

// clerkGrammar is chapter 4 without its limits. A symbol that no line begins with is
// a token: a keyword, a sign, or one of num, str, re, name and call.
const clerkGrammar = `
prog = | prog item
item = BEGIN block | END block | function fname ( ) block | function fname ( params ) block | block | expr block
fname = name | call
params = name | params , name
block = { statements }
statements = | statements statement
statement = block | if ( expr ) statement | if ( expr ) statement else statement | while ( expr ) statement
statement = for ( name in name ) statement | for ( expr ; expr ; expr ) statement | simple ;
simple = print | print list | printf list | break | continue | next | exit | exit expr | return | return expr | delete name [ expr ] | expr
list = expr | list , expr
expr = conditional | target = expr | target += expr
target = name | name [ expr ] | $ primary | ( target )
conditional = or | or ? expr : expr
or = and | or || and
and = in_ | and && in_
in_ = match | in_ in name
match = comparison | match ~ comparison | match !~ comparison
comparison = cat | cat < cat | cat <= cat | cat == cat | cat != cat
cat = sum | cat sum2
sum = product | sum + product | sum - product
product = unary | product * unary | product / unary | product % unary
unary = - unary | ! unary | primary
primary = re | primary2
sum2 = product2 | sum2 + product | sum2 - product
product2 = primary2 | product2 * unary | product2 / unary | product2 % unary
primary2 = num | str | ( expr ) | $ primary | name [ expr ] | name | call ( ) | call ( list ) | length ( ) | length ( expr ) | length
primary2 = substr ( expr , expr ) | substr ( expr , expr , expr ) | index ( expr , expr ) | split ( expr , name ) | split ( expr , name , expr )
primary2 = toupper ( expr ) | int ( expr )
`

type grammar map[string][][]string

func readGrammar() grammar {
	g := grammar{}
	for _, line := range strings.Split(strings.TrimSpace(clerkGrammar), "\n") {
		head, tail, _ := strings.Cut(line, " = ")
		way := []string{}
		for _, symbol := range append(strings.Fields(tail), "|") {
			if symbol == "|" {
				g[head] = append(g[head], way)
				way = []string{}
			} else {
				way = append(way, symbol)
			}
		}
	}
	return g
}

// A state is a way of a symbol of which some has been read, beginning at a token.
type state struct {
	head      string
	way, read int
	from      int
}

// chart is what Earley's method knows behind each of the tokens read so far.
type chart struct {
	g    grammar
	sets [][]state
}

func newChart(g grammar) *chart {
	c := &chart{g: g}
	var first []state
	for way := range g["prog"] {
		first = append(first, state{"prog", way, 0, 0})
	}
	c.close(first)
	return c
}

func (c *chart) symbol(s state) string {
	way := c.g[s.head][s.way]
	if s.read == len(way) {
		return ""
	}
	return way[s.read]
}

// close adds to the states what follows from them.
func (c *chart) close(states []state) {
	here := len(c.sets)
	known := map[state]bool{}
	add := func(s state) {
		if !known[s] {
			known[s] = true
			states = append(states, s)
		}
	}
	for _, s := range states {
		known[s] = true
	}
	for i := 0; i < len(states); i++ {
		s := states[i]
		next := c.symbol(s)
		for way := range c.g[next] {
			add(state{next, way, 0, here})
		}
		if next == "statements" || next == "prog" { // they can be empty
			add(state{s.head, s.way, s.read + 1, s.from})
		}
		if next == "" && s.from < here {
			for _, outer := range c.sets[s.from] {
				if c.symbol(outer) == s.head {
					add(state{outer.head, outer.way, outer.read + 1, outer.from})
				}
			}
		}
	}
	c.sets = append(c.sets, states)
}

// expected returns the tokens that can follow.
func (c *chart) expected() map[string]bool {
	tokens := map[string]bool{}
	for _, s := range c.sets[len(c.sets)-1] {
		if next := c.symbol(s); next != "" && c.g[next] == nil {
			tokens[next] = true
		}
	}
	return tokens
}

func (c *chart) whole() bool {
	return slices.ContainsFunc(c.sets[len(c.sets)-1], func(s state) bool {
		return s.head == "prog" && s.from == 0 && c.symbol(s) == ""
	})
}

func (c *chart) read(token string) {
	var states []state
	for _, s := range c.sets[len(c.sets)-1] {
		if c.symbol(s) == token {
			states = append(states, state{s.head, s.way, s.read + 1, s.from})
		}
	}
	c.close(states)
}

// symbolOf returns what the grammar calls a token.
func symbolOf(k impl.Tok) string {
	switch k.Kind {
	case impl.TkNum:
		return "num"
	case impl.TkStr:
		return "str"
	case impl.TkRe:
		return "re"
	case impl.TkName:
		return "name"
	case impl.TkCall:
		return "call"
	}
	return k.S
}

// everyToken is a source of each token.
func everyToken() []string {
	return slices.Concat([]string{"1", `"s"`, "/r/", "x", "f("}, keywords, signs)
}

// checkNext appends each token to a source, of which the chart has read the
// tokens, and compares the offset that is reported with the grammar.
func checkNext(t *testing.T, c *chart, src string) {
	t.Helper()
	expected := c.expected()
	for _, token := range everyToken() {
		toks, at := impl.Lex(src + token)
		if at >= 0 || toks[len(toks)-1].At < len(src) {
			continue // a regular expression where / divides, or the other way round
		}
		last := len(toks) - 1
		if token == "f(" {
			last--
		}
		if !expected[symbolOf(toks[last])] {
			checkNoParse(t, src+token, len(src))
			checkNoParse(t, src+token+" ) ; }", len(src))
			continue
		}
		whole := false
		if token == "}" {
			next := &chart{g: c.g, sets: slices.Clone(c.sets)}
			next.read(token)
			whole = next.whole()
		}
		p, at := impl.Parse(src + token)
		if whole && at != -1 || !whole && at != len(src+token) {
			t.Errorf("Parse(%q) = %v, %d; the whole is %v", src+token, p, at, whole)
		}
	}
}

// checkEachToken checks what can follow each of the first tokens of a program.
func checkEachToken(t *testing.T, g grammar, src string) {
	t.Helper()
	c := newChart(g)
	toks, at := impl.Lex(src)
	if at >= 0 {
		t.Fatal(src, at)
	}
	for i, k := range toks {
		if i == 0 || toks[i-1].Kind != impl.TkCall {
			checkNext(t, c, src[:k.At]+" ")
		}
		c.read(symbolOf(k))
	}
	if !c.whole() {
		t.Errorf("%q is no program of the grammar", src)
	}
	checkNext(t, c, src+" ")
}

func TestParseOffsetAtEachToken(t *testing.T) {
	g := readGrammar()
	for _, src := range []string{
		"BEGIN { x = 1; } END { }", "function f ( a , b , c ) { return a ; }", "function f() { } x { } { }",
		"{ if ( x ) { } else y ; if ( x ) next ; }", "{ while ( x ) break ; continue ; }", "{ for ( k in A ) next ; for ( k in A ; 1 ; 2 ) next ; }", "{ for ( x = 1 ; x < 2 ; x += 1 ) { } }",
		"{ print ; print x , 1 ; printf \"s\" , x ; exit ; exit x ; return ; return 1 ; delete A [ x ] ; }", "{ delete A [ x y ] ; }",
		"x ? y : z { }", "x || y && z in A { }", "x ~ y !~ z { }", "x < y { }", "x y 1 \"s\" f() length (z) $ 1 { }", "x + y - z * 1 / 2 % 3 { }", "- ! x { }", "/r/ ~ /r/ { }",
		"$ x [ 1 ] = y [ 2 ] += z { }", "( x ) = ( ( y [ 1 ] ) ) = ( $ 1 ) += 1 { }", "f( ) g( x ) h( x , y ) { }", "length length ( ) length ( x ) { }",
		"substr ( x , 1 ) substr ( x , 1 , 2 ) { }", "index ( x , y ) toupper ( x ) int ( x ) { }", "split ( x , A ) split ( x , A , /r/ ) { }", "x in A in B { }", "( x in A ) ( y ) { }",
	} {
		checkEachToken(t, g, src)
	}
	for seed := range 60 {
		w := wilds{dice: treeMaker(seed)}
		src, _ := spareText(seed, false, []rule{when(w.expression(3), w.block(1))})
		if len(src) < 300 {
			checkEachToken(t, g, src)
		}
	}
}

// step appends any token that can follow, and returns the source with it.
func step(c *chart, dice *treeMaker, src string) string {
	expected := c.expected()
	tokens := everyToken()
	for {
		token := tokens[dice.below(len(tokens))]
		toks, at := impl.Lex(src + token)
		if at >= 0 || toks[len(toks)-1].At < len(src) {
			continue
		}
		switch symbol := symbolOf(toks[len(toks)-1]); {
		case token == "f(" && expected["call"]:
			c.read("call")
			c.read("(")
			return src + "f( "
		case token != "f(" && expected[symbol]:
			c.read(symbol)
			return src + token + " "
		}
	}
}

// TestParseOffsetOnWalks goes through the grammar at random.
func TestParseOffsetOnWalks(t *testing.T) {
	g := readGrammar()
	dice := treeMaker(1)
	for range 150 {
		c, src := newChart(g), ""
		for len(c.sets) < 20 {
			checkNext(t, c, src)
			src = step(c, &dice, src)
		}
	}
}

// checkEither parses any source: it is refused at a token, or where Lex fails, or
// at its end, or it is a program whose text is parsed to the same program.
func checkEither(t *testing.T, src string) {
	t.Helper()
	p, at := impl.Parse(src)
	if at == -1 {
		checkWhole(t, src, p)
		checkParse(t, progText(rulesOf(p)), rulesOf(p)...)
		return
	}
	toks, lexed := impl.Lex(src)
	isToken := slices.ContainsFunc(toks, func(k impl.Tok) bool { return k.At == at })
	if len(p.L) != 0 || len(p.Items) != 0 || lexed >= 0 && at != lexed || lexed < 0 && !isToken && at != len(src) {
		t.Errorf("Parse(%q) = %v, %d; Lex reports %d", src, p, at, lexed)
	}
	if _, before := impl.Parse(src[:max(at, 0)]); lexed < 0 && before != -1 && before != at {
		t.Errorf("Parse(%q) reports %d, but %d for what precedes it", src, at, before)
	}
}

func TestParseChangedSources(t *testing.T) {
	tokens := everyToken()
	for seed := range 1500 {
		w := wilds{dice: treeMaker(seed)}
		src, _ := spareText(seed, false, w.rules())
		parts := strings.Fields(src)
		for range 3 {
			i := w.dice.below(len(parts) + 1)
			end := min(i+w.dice.below(2), len(parts))
			parts = slices.Replace(parts, i, end, tokens[w.dice.below(len(tokens))])
			checkEither(t, strings.Join(parts, " "))
		}
	}
}

func TestParseAnyBytes(t *testing.T) {
	for _, src := range allStrings("{}x;(=", 5) {
		checkEither(t, src)
	}
	dice := treeMaker(7)
	for range 20000 {
		src := make([]byte, dice.below(12))
		for i := range src {
			src[i] = "{}{};;xA01()$-\"/ ,=\n\x00\xff"[dice.below(22)]
		}
		checkEither(t, string(src))
	}
}

func TestParseShortSequences(t *testing.T) {
	g := readGrammar()
	tokens := []string{"{", "}", "x", "(", ")", ";", "=", "-", "1"}
	var extend func(c *chart, src string, most int)
	extend = func(c *chart, src string, most int) {
		expected := c.expected()
		for _, token := range tokens {
			toks, _ := impl.Lex(token)
			symbol := symbolOf(toks[0])
			if !expected[symbol] {
				checkNoParse(t, src+token, len(src))
				continue
			}
			next := &chart{g: g, sets: slices.Clone(c.sets)}
			next.read(symbol)
			if _, at := impl.Parse(src + token); next.whole() != (at == -1) || !next.whole() && at != len(src+token) {
				t.Errorf("Parse(%q) reports %d; the whole is %v", src+token, at, next.whole())
			}
			if most > 1 {
				extend(next, src+token+" ", most-1)
			}
		}
	}
	extend(newChart(g), "", 6)
}

// sampleProg has no empty field that could have another value.
func sampleProg() impl.Prog {
	return impl.Prog{
		L: []impl.Node{
			{Kind: impl.NkNum, N: 3},
			{Kind: impl.NkElem, S: "A", Kids: []int{0}},
			{Kind: impl.NkSplit, S: "s", T: "B", N: 4, Kids: []int{1, 0}},
			{Kind: impl.NkBlock, Kids: []int{2}},
		},
		Items: []impl.Item{
			{When: impl.WnExpr, Name: "f", Params: []string{"a", "b"}, Cond: 1, Body: 3},
			{When: impl.WnAll, Cond: -1, Body: 2},
		},
	}
}

func TestSameProg(t *testing.T) {
	changes := []func(*impl.Prog){
		func(p *impl.Prog) { p.L[0].Kind++ },
		func(p *impl.Prog) { p.L[3].Kind = -1 },
		func(p *impl.Prog) { p.L[1].S = "B" },
		func(p *impl.Prog) { p.L[1].S = "" },
		func(p *impl.Prog) { p.L[0].S = "x" },
		func(p *impl.Prog) { p.L[2].T = "BB" },
		func(p *impl.Prog) { p.L[1].T = "A" },
		func(p *impl.Prog) { p.L[2].S, p.L[2].T = p.L[2].T, p.L[2].S },
		func(p *impl.Prog) { p.L[0].N = -3 },
		func(p *impl.Prog) { p.L[2].N = 0 },
		func(p *impl.Prog) { p.L[1].Kids = nil },
		func(p *impl.Prog) { p.L[1].Kids = []int{1} },
		func(p *impl.Prog) { p.L[1].Kids = []int{0, 0} },
		func(p *impl.Prog) { p.L[2].Kids = []int{0, 1} },
		func(p *impl.Prog) { p.L[2].Kids = p.L[2].Kids[:1] },
		func(p *impl.Prog) { p.L[0].Kids = []int{0} },
		func(p *impl.Prog) { p.L[0], p.L[1] = p.L[1], p.L[0] },
		func(p *impl.Prog) { p.L = p.L[:3] },
		func(p *impl.Prog) { p.L = nil },
		func(p *impl.Prog) { p.L = append(p.L, impl.Node{}) },
		func(p *impl.Prog) { p.Items[0].When = impl.WnFunc },
		func(p *impl.Prog) { p.Items[0].Name = "g" },
		func(p *impl.Prog) { p.Items[1].Name = "g" },
		func(p *impl.Prog) { p.Items[0].Params = []string{"b", "a"} },
		func(p *impl.Prog) { p.Items[0].Params = []string{"a"} },
		func(p *impl.Prog) { p.Items[0].Params = []string{"a", "b", ""} },
		func(p *impl.Prog) { p.Items[0].Params = []string{"ab", ""} },
		func(p *impl.Prog) { p.Items[1].Params = []string{""} },
		func(p *impl.Prog) { p.Items[0].Cond = -1 },
		func(p *impl.Prog) { p.Items[1].Cond = 0 },
		func(p *impl.Prog) { p.Items[1].Body = 3 },
		func(p *impl.Prog) { p.Items[0].Body = 1 << 40 },
		func(p *impl.Prog) { p.Items[0], p.Items[1] = p.Items[1], p.Items[0] },
		func(p *impl.Prog) { p.Items = p.Items[:1] },
		func(p *impl.Prog) { p.Items = nil },
		func(p *impl.Prog) { p.Items = append(p.Items, impl.Item{}) },
	}
	for i, change := range changes {
		a, b := sampleProg(), sampleProg()
		if !impl.SameProg(a, b) {
			t.Fatal("the samples differ")
		}
		change(&b)
		if impl.SameProg(a, b) || impl.SameProg(b, a) || !impl.SameProg(b, b) {
			t.Errorf("change %d", i)
		}
	}
	if !impl.SameProg(impl.Prog{}, impl.Prog{L: []impl.Node{}, Items: []impl.Item{}}) {
		t.Error("empty and nil")
	}
	empty := impl.Prog{L: []impl.Node{{Kids: []int{}}}, Items: []impl.Item{{Params: []string{}}}}
	if !impl.SameProg(empty, impl.Prog{L: make([]impl.Node, 1), Items: make([]impl.Item, 1)}) {
		t.Error("empty and nil in nodes and items")
	}
}

func TestSameProgOfSources(t *testing.T) {
	sources := []string{
		"", "{ }", "BEGIN { }", "END { }", "x { }", "y { }", "1 { }", "2 { }", "\"x\" { }", "/x/ { }", "$x { }", "x[1] { }", "y[1] { }", "x[2] { }", "x() { }", "x(y) { }", "x + y { }", "y + x { }", "x - y { }", "x y { }",
		"function x() { }", "function y() { }", "function x(y) { }", "function x(z) { }", "function x(y, z) { }", "{ } { }", "{ next; }", "{ { next; } }", "{ for (x in y) next; }", "{ for (y in x) next; }", "{ for (x in x) next; }",
		"{ for (x in y; 1; 2) next; }", "{ if (x) next; }", "{ if (x) next; else next; }", "{ split(x, y); }", "{ split(x, z); }", "{ split(x, y, z); }", "{ print; }", "{ print x; }", "{ printf x; }", "{ x; }", "{ exit; }", "{ return; }", "{ exit x; }",
	}
	for i, a := range sources {
		p, at := impl.Parse(a)
		if at != -1 {
			t.Fatal(a, at)
		}
		for j, b := range sources {
			q, _ := impl.Parse(" " + b + " # " + a)
			if impl.SameProg(p, q) != (i == j) {
				t.Errorf("%q and %q: %v", a, b, i != j)
			}
		}
	}
}

func TestCountKind(t *testing.T) {
	p, _ := impl.Parse("x + 1 { print x, x, 1 + 1; { } next; } END { }")
	want := map[int]int{impl.NkVar: 3, impl.NkNum: 3, impl.NkPlus: 2, impl.NkPrint: 1, impl.NkBlock: 3, impl.NkNext: 1}
	for kind := -70; kind < 70; kind++ {
		if got := impl.CountKind(p, kind); got != want[kind] {
			t.Errorf("CountKind(%d) = %d, want %d", kind, got, want[kind])
		}
		if got := impl.CountKind(impl.Prog{Items: p.Items}, kind); got != 0 {
			t.Errorf("CountKind(%d) of no nodes = %d", kind, got)
		}
	}
	// The list of nodes is counted, whether or not it is a program.
	odd := impl.Prog{L: []impl.Node{{Kind: -5, Kids: []int{9, -1}}, {Kind: 99}, {Kind: -5, Kids: []int{0, 0}}, {Kind: 1 << 60}, {Kind: 33}}, Items: []impl.Item{{Cond: 70, Body: -9}}}
	for kind, want := range map[int]int{-5: 2, 99: 1, 1 << 60: 1, 33: 1, 0: 0, 35: 0} {
		if got := impl.CountKind(odd, kind); got != want {
			t.Errorf("CountKind(%d) = %d, want %d", kind, got, want)
		}
	}
	if !impl.SameProg(odd, odd) || impl.SameProg(odd, p) {
		t.Error("SameProg of what is no program")
	}
}

func TestParseResultsAreNew(t *testing.T) {
	src := "x \"s\" ~ /r/ { f(x, y); A[1] = 2; split(x, A, y); print x, y, 1; for (k in A) delete A[k]; }\nfunction f(a, b) { return a; }\nfunction g(c) { next; next; }"
	p, at := impl.Parse(src)
	again, _ := impl.Parse(src)
	if at != -1 {
		t.Fatal(at)
	}
	for _, n := range p.L {
		if sharesBytes(n.S, src) || sharesBytes(n.T, src) {
			t.Errorf("%v shares memory with the source", n)
		}
	}
	for _, item := range p.Items {
		for _, s := range append(slices.Clone(item.Params), item.Name) {
			if sharesBytes(s, src) {
				t.Errorf("%v shares memory with the source", item)
			}
		}
	}
	// Writing to each slice and behind it changes nothing else.
	for k := range p.L {
		kids := p.L[k].Kids
		for i := range kids[:cap(kids)] {
			kids[:cap(kids)][i] = -k
		}
	}
	for i := range p.Items {
		params := p.Items[i].Params
		for j := range params[:cap(params)] {
			params[:cap(params)][j] = strings.Repeat("p", i)
		}
	}
	for k, n := range p.L {
		if slices.ContainsFunc(n.Kids, func(kid int) bool { return kid != -k }) {
			t.Errorf("the kids %v of node %d", n.Kids, k)
		}
	}
	for i, item := range p.Items {
		if slices.ContainsFunc(item.Params, func(s string) bool { return len(s) != i }) {
			t.Errorf("the params %v of item %d", item.Params, i)
		}
	}
	if third, _ := impl.Parse(src); !equalProgs(again, third) || equalProgs(p, third) {
		t.Error("Parse depends on an earlier result")
	}
}

func TestProgsAreNotModified(t *testing.T) {
	p, before := sampleProg(), sampleProg()
	q := sampleProg()
	q.L[1].S = "other"
	impl.SameProg(p, q)
	for kind := range 60 {
		impl.CountKind(p, kind)
	}
	if !equalProgs(p, before) {
		t.Error(p)
	}
}
