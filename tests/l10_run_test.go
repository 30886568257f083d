package tests

import (
	"math"
	"slices"
	"strconv"
	"strings"
	"testing"

	"loop.example/g00700/impl"
)

// ran is what a program with an input does, if it has enough fuel.
type ran struct {
	src, input string
	code       int
	out        string
}

// checkRan checks a run with all the fuel, and compares the beginning of the run
// with the model, with every fuel.
func checkRan(t *testing.T, x ran) impl.Result {
	t.Helper()
	r := impl.Run(parsed(t, x.src), x.input, impl.MaxFuel)
	if r.Code != x.code || r.Out != x.out {
		t.Errorf("%.300s with the input %.100q gives %s; want %s %.300q", x.src, x.input, resultText(r), codeWords[x.code], x.out)
	}
	checkEachFuel(t, x.src, x.input, 120)
	checkFuel(t, x.src, parsed(t, x.src), x.input, traceOf(parsed(t, x.src), x.input, impl.MaxFuel), impl.MaxFuel)
	return r
}

func checkAllRan(t *testing.T, list []ran) {
	t.Helper()
	for _, x := range list {
		checkRan(t, x)
	}
}

// checkValues checks the strings of expressions, each followed by its string, in
// BEGIN after some statements.
func checkValues(t *testing.T, before string, list ...string) {
	t.Helper()
	for i := 0; i < len(list); i += 2 {
		checkRan(t, ran{"BEGIN { " + before + " print " + list[i] + "; }", "", impl.RnEnd, list[i+1] + "\n"})
	}
}

// checkStops checks that statements end with a code, behind what they print.
func checkStops(t *testing.T, code int, before, statement string) {
	t.Helper()
	checkRan(t, ran{"BEGIN { print 7; " + before + " " + statement + " print 8; } END { print 9; } function f(a) { }", "", code, "7\n"})
}

func checkForm(t *testing.T, what string, p impl.Prog, input string, fuel int) {
	t.Helper()
	if r := impl.Run(p, input, fuel); !equalResults(r, impl.Result{Code: impl.RnForm}) {
		t.Errorf("%s: Run gives %s", what, resultText(r))
	}
}

func checkNoForm(t *testing.T, what string, p impl.Prog, input string, fuel int) {
	t.Helper()
	d := traceOf(p, input, impl.MaxFuel)
	if r := impl.Run(p, input, fuel); r.Code == impl.RnForm || !equalResults(r, d.result(len(p.L), fuel)) {
		t.Errorf("%s: Run gives %s", what, resultText(r))
	}
}

func TestRunOfBadPrograms(t *testing.T) {
	t.Parallel()
	valid, not := 0, 0
	check := func(p impl.Prog) {
		if impl.ProgOk(p) {
			valid++
			checkNoForm(t, impl.ProgText(p), p, "a b\n1", 60)
			return
		}
		not++
		checkForm(t, "a program that is not valid", p, "a b\n1", 60)
	}
	for _, src := range []string{
		"{ f(x, 1); } function f(a, b) { a[b]; }", "x in g { delete f[a]; f(); print; } function f(a, a) { a; }", "BEGIN { g(NR); } END { f; } function g(x) { return 1; }",
		"{ for (k in A) print k; while (i < 2) i += 1; }", "", "{ }", "$1 ~ /a/ { printf \"%s\", split($0, A); }",
	} {
		p := parsed(t, src)
		check(p)
		for k := range p.L {
			eachNodeChange(p, k, check)
		}
		for i := range p.Items {
			eachItemChange(p, i, check)
		}
		eachOrderChange(p, check)
	}
	dice := treeMaker(10)
	for range 2000 {
		check(randomProg(&dice))
	}
	if valid < 400 || not < 3000 {
		t.Error(valid, not)
	}
	soon(t, "large programs", func() {
		many := slices.Repeat([]impl.Node{{Kind: impl.NkBlock}}, 300000)
		checkForm(t, "many nodes", impl.Prog{L: many, Items: []impl.Item{{Cond: -1}}}, "", 9)
		checkForm(t, "a long string", impl.Prog{L: []impl.Node{{Kind: impl.NkStr, S: long(1 << 24)}, {Kind: impl.NkDo, Kids: []int{0}}, {Kind: impl.NkBlock, Kids: []int{1}}}, Items: []impl.Item{{Cond: -1, Body: 2}}}, "", 9)
	})
}

func TestRunOfBadInputsAndFuels(t *testing.T) {
	p := parsed(t, "{ n += length; } END { print NR, n, length; }")
	line := long(impl.MaxStr) + "\n"
	lines := func(n int) string { return strings.Repeat("abcde1234\n", n/10) + long(n%10) }
	for _, input := range []string{lines(impl.MaxInput), strings.Repeat("\n", impl.MaxInput), line, line + line, long(impl.MaxStr), "\n" + long(impl.MaxStr), strings.Repeat(line, 5), "\xff\x00" + long(498) + "\n\xff"} {
		checkNoForm(t, "an input within the limits", p, input, impl.MaxFuel)
	}
	long501 := long(impl.MaxStr + 1)
	for _, input := range []string{lines(impl.MaxInput + 1), strings.Repeat("\n", impl.MaxInput+1), long501, long501 + "\n", long501 + "\na", "a\n" + long501 + "\na", "a\n" + long501, line + line + long501, long(impl.MaxInput), strings.Repeat("\xff", 501), strings.Repeat("x", 1<<24), strings.Repeat("\n", 1<<24)} {
		checkForm(t, "an input beyond a limit", p, input, impl.MaxFuel)
		checkForm(t, "an input beyond a limit", impl.Prog{}, input, 0)
	}
	for _, fuel := range []int{0, 1, 2, impl.MaxFuel - 1, impl.MaxFuel} {
		checkNoForm(t, "a fuel within the limits", p, "a\n", fuel)
		checkNoForm(t, "the empty program", impl.Prog{}, "a\n", fuel)
	}
	for _, fuel := range []int{-1, impl.MaxFuel + 1, math.MinInt, math.MaxInt, -impl.MaxFuel} {
		checkForm(t, "a fuel beyond a limit", p, "a\n", fuel)
		checkForm(t, "a fuel beyond a limit", impl.Prog{}, "", fuel)
	}
	for _, fuel := range []int{0, 5, impl.MaxFuel} {
		if r := impl.Run(impl.Prog{}, "a\nb\n", fuel); !equalResults(r, impl.Result{Left: fuel}) {
			t.Errorf("the empty program gives %s", resultText(r))
		}
	}
}

// A program that no checker accepts is run.
func TestRunOfProgramsWithFaults(t *testing.T) {
	checkAllRan(t, []ran{
		{"BEGIN { print 1; } END { no(); x[1]; x; NR = 1; printf \"%q\"; /*/; }", "", impl.RnArgs, "1\n"},
		{"BEGIN { if (0) { NR = 1; NR[1]; no(); f(1); x ~ /(/; printf 1; x; x[1]; } print 2; } function f() { } function f() { }", "", impl.RnEnd, "2\n"},
		{"{ exit; print 1; }", "a", impl.RnEnd, ""},
		{"BEGIN { print f(4); } function f(a, a) { return a; } function f(b) { return 5; }", "", impl.RnEnd, "4\n"},
	})
}

// Which nodes begin, in the order in which they first do.

func nodeText(p impl.Prog, k int) string {
	if !isStatement(p.L[k].Kind) {
		return text(treeIn(p, k))
	}
	words := []string{"do", "print", "printf", "if", "while", "for", "forin", "break", "continue", "next", "exit", "return", "delete", "block"}
	return words[p.L[k].Kind-impl.NkDo]
}

// checkBegins compares the nodes that begin, each fuel at a time, with a list.
func checkBegins(t *testing.T, src, input, want string, used int) {
	t.Helper()
	p := parsed(t, src)
	var texts []string
	before := make([]bool, len(p.L))
	for fuel := range used + 3 {
		r := impl.Run(p, input, fuel)
		for k, hit := range r.Hit {
			if hit && !before[k] {
				texts = append(texts, nodeText(p, k))
			}
		}
		before = r.Hit
		if (r.Code == impl.RnFuel) != (fuel < used) || r.Left != max(0, fuel-used) {
			t.Errorf("%s with the fuel %d gives %s; want %d used", src, fuel, resultText(r), used)
		}
	}
	if got := strings.Join(texts, " | "); got != want {
		t.Errorf("%s begins\n%s; want\n%s", src, got, want)
	}
	checkEachFuel(t, src, input, 200)
}

func TestRunOrderOfBeginning(t *testing.T) {
	for _, x := range []struct {
		src, input, want string
		used             int
	}{
		{"", "a\nb", "", 0},
		{"function f() { }", "a\nb", "", 0},
		{"BEGIN { }", "", "block", 1},
		{"{ }", "a\nb\nc", "block", 3},
		{"{ }", "", "", 0},
		{"x { }", "a\nb", "x", 2},
		{"1 { print; }", "a", "1 | block | print", 3},
		{"BEGIN { 1 + 2 * 3; }", "", "block | do | (1 + (2 * 3)) | 1 | (2 * 3) | 2 | 3", 7},
		{"BEGIN { x = 1; }", "", "block | do | (x = 1) | 1", 4},
		{"BEGIN { x += 2; }", "", "block | do | (x += 2) | 2", 4},
		{"BEGIN { x[1] = 2; }", "", "block | do | (x[1] = 2) | 1 | 2", 5},
		{"BEGIN { x[1] += 2; }", "", "block | do | (x[1] += 2) | 1 | 2", 5},
		{"BEGIN { $1 = 2; }", "", "block | do | ($(1) = 2) | 1 | 2", 5},
		{"BEGIN { $(y = 1) += 2; }", "", "block | do | ($((y = 1)) += 2) | (y = 1) | 1 | 2", 6},
		{"BEGIN { x[y[3]] = z[4]; }", "", "block | do | (x[y[3]] = z[4]) | y[3] | 3 | z[4] | 4", 7},
		{"BEGIN { x = y = 5; }", "", "block | do | (x = (y = 5)) | (y = 5) | 5", 5},
		{"BEGIN { x[1]; x; }", "", "block | do | x[1] | 1 | do | x", 6},
		{"BEGIN { $x; -x; !x; }", "", "block | do | $(x) | x | do | (-x) | x | do | (!x) | x", 10},
		{"BEGIN { 1 ~ /a/; }", "", "block | do | (1 ~ (/a/)) | 1", 4},
		{"BEGIN { 1 !~ /a/; }", "", "block | do | (1 !~ (/a/)) | 1", 4},
		{"BEGIN { /b/ ~ /a/; }", "", "block | do | ((/b/) ~ (/a/)) | (/b/)", 4},
		{"BEGIN { 1 ~ (/a/ \"\"); }", "", "block | do | (1 ~ ((/a/) \"\")) | 1 | ((/a/) \"\") | (/a/) | \"\"", 7},
		{"BEGIN { 1 || 2; 0 || 3; }", "", "block | do | (1 || 2) | 1 | do | (0 || 3) | 0 | 3", 8},
		{"BEGIN { 0 && 2; 1 && 3; }", "", "block | do | (0 && 2) | 0 | do | (1 && 3) | 1 | 3", 8},
		{"BEGIN { 1 ? 2 : 3; 0 ? 4 : 5; }", "", "block | do | (1 ? 2 : 3) | 1 | 2 | do | (0 ? 4 : 5) | 0 | 5", 9},
		{"BEGIN { 1 2 < 3; 1 in A; }", "", "block | do | ((1 2) < 3) | (1 2) | 1 | 2 | 3 | do | (1 in A) | 1", 10},
		{"BEGIN { length; length(1); int(2); toupper(3); index(4, 5); substr(6, 7); substr(8, 9, 10); }", "", "block | do | length() | do | length(1) | 1 | do | int(2) | 2 | do | toupper(3) | 3 | do | index(4, 5) | 4 | 5 | do | substr(6, 7) | 6 | 7 | do | substr(8, 9, 10) | 8 | 9 | 10", 25},
		{"BEGIN { split(1, A); split(2, A, 3); }", "", "block | do | split(1, A) | 1 | do | split(2, A, 3) | 2 | 3", 8},
		{"BEGIN { f(x, 1, NR, x + 1); } function f(a, b, c, d) { return b; }", "", "block | do | f(x, 1, NR, (x + 1)) | x | 1 | NR | (x + 1) | x | 1 | block | return | b", 12},
		{"BEGIN { f(f(1)); } function f(a) { }", "", "block | do | f(f(1)) | f(1) | 1 | block", 7},
		{"BEGIN { print; print 1, 2; printf 3, 4; }", "", "block | print | print | 1 | 2 | printf | 3 | 4", 8},
		{"BEGIN { if (1) 2; if (0) 3; if (1) 4; else 5; if (0) 6; else 7; }", "", "block | if | 1 | do | 2 | if | 0 | if | 1 | do | 4 | if | 0 | do | 7", 15},
		{"BEGIN { while (0) 1; for (2; 0; 3) 4; for (5; 6; 7) break; }", "", "block | while | 0 | for | 2 | 0 | for | 5 | 6 | break", 10},
		{"BEGIN { while (i < 2) i += 1; }", "", "block | while | (i < 2) | i | 2 | do | (i += 1) | 1", 2 + 3*3 + 2*3},
		{"BEGIN { for (i = 0; i < 2; i += 1) { } }", "", "block | for | (i = 0) | 0 | (i < 2) | i | 2 | block | (i += 1) | 1", 4 + 3*3 + 2*3},
		{"BEGIN { for (i = 0; i < 2; i += 1) continue; }", "", "block | for | (i = 0) | 0 | (i < 2) | i | 2 | continue | (i += 1) | 1", 4 + 3*3 + 2*3},
		{"BEGIN { split(\"a b\", A); for (k in A) { } for (k in B) { } }", "", "block | do | split(\"a b\", A) | \"a b\" | forin | block | forin", 8},
		{"BEGIN { delete A[1 + 2]; }", "", "block | delete | (1 + 2) | 1 | 2", 5},
		{"BEGIN { exit 1; } END { }", "a", "block | exit | 1", 3},
		{"BEGIN { exit; } { }", "a", "block | exit", 2},
		{"BEGIN { return 1; 2; } BEGIN { next; 3; } BEGIN { break; 4; } BEGIN { continue; 5; }", "", "block | return | 1 | block | next | block | break | block | continue", 9},
		{"END { 3; } { 2; } BEGIN { 1; } x { }", "a", "block | do | 1 | block | do | 2 | x | block | do | 3", 10},
	} {
		checkBegins(t, x.src, x.input, x.want, x.used)
	}
}

func TestRunOrderOfItems(t *testing.T) {
	checkAllRan(t, []ran{
		{`END { print "e1", NR; } { print "a", $0; } BEGIN { print "b1"; } NR == 2 { print "x"; } BEGIN { print "b2"; } END { print "e2"; } { print "c"; }`, "p\nq\n", impl.RnEnd,
			"b1\nb2\na p\nc\na q\nx\nc\ne1 2\ne2\n"},
		{`BEGIN { print 1; } END { print 2; }`, "", impl.RnEnd, "1\n2\n"},
		{`{ print NR; } x += 1 { print "x" x; } x == 2 { print "two"; }`, "a\nb\nc", impl.RnEnd, "1\nx1\n2\nx2\ntwo\n3\nx3\n"},
		{`0 { print 1; } "" { print 2; } "0" { print 3; } u { print 4; } $1 { print 5; } $2 { print 6; } $3 { print 7; } $4 { print 8; } -1 { print 9; }`, "0 1 a 0x", impl.RnEnd, "3\n6\n7\n8\n9\n"},
		{`BEGIN { print NR, NF, "[" $0 "]", "[" $1 "]", length; print; } { print NR, NF, $0, $1, length; } END { print NR, NF, $0, $1, length; print; }`, "a b\n\n  c  d e \n", impl.RnEnd,
			"0 0 [] [] 0\n\n1 2 a b a 3\n2 0   0\n3 3   c  d e  c 9\n3 3   c  d e  c 9\n  c  d e \n"},
		{`END { print NR, NF; print; }`, "", impl.RnEnd, "0 0\n\n"},
		{`END { print NR, NF; print; }`, "\n\n", impl.RnEnd, "2 0\n\n"},
		{`END { print NR, NF; print; }`, "\n\nx y", impl.RnEnd, "3 2\nx y\n"},
		{`BEGIN { $0 = "p q"; print NR, NF, $2; $4 = 1; print NF; print; } { print NR, NF; } END { $2 = "z"; print NR, NF, $0; }`, "a\n", impl.RnEnd, "0 2 q\n4\np q  1\n1 1\n1 2 a z\n"},
		{`{ $0 = "x y z"; } { print NF, $3; $1 = ""; } { print; }`, "a\nb", impl.RnEnd, "3 z\n y z\n3 z\n y z\n"},
		{`function f() { print 1; } { f(); } function g() { print 2; }`, "a\nb", impl.RnEnd, "1\n1\n"},
		{`/b/ { print; }`, "abc\nx\nb", impl.RnEnd, "abc\nb\n"},
	})
}

func TestRunBlocksAndConditions(t *testing.T) {
	checkAllRan(t, []ran{
		{`BEGIN { { } { { print 1; } print 2; } }`, "", impl.RnEnd, "1\n2\n"},
		{`BEGIN { if (1) print 1; if (0) print 2; if (1) print 3; else print 4; if (0) print 5; else print 6; if (x) print 7; else if (1) print 8; else print 9; }`, "", impl.RnEnd, "1\n3\n6\n8\n"},
		{`{ if ($1) print 1; else print 0; if ($2) print 1; else print 0; if ($1 "") print 1; else print 0; if ($3) print 1; else print 0; }`, "0 -0.5", impl.RnEnd, "0\n1\n1\n0\n"},
		{`BEGIN { if (1) { print 1; return; } else print 2; print 3; } BEGIN { if (0) print 1; else { print 2; break; } print 3; }`, "", impl.RnEnd, "1\n2\n"},
	})
}

func TestRunLoops(t *testing.T) {
	checkAllRan(t, []ran{
		{`BEGIN { while (i < 3) { i += 1; print i; } print "end", i; }`, "", impl.RnEnd, "1\n2\n3\nend 3\n"},
		{`BEGIN { while (0) print 1; for (i = 5; 0; i += 1) print 2; print i; }`, "", impl.RnEnd, "5\n"},
		{`BEGIN { for (i = 1; i <= 3; i += 1) for (j = 0; j < i; j += 1) print i, j; print i, j; }`, "", impl.RnEnd, "1 0\n2 0\n2 1\n3 0\n3 1\n3 2\n4 3\n"},
		{`BEGIN { split("c a b", A); A["x"] = 5; A[10]; A[""]; for (k in A) print k "=" A[k]; print k; }`, "", impl.RnEnd, "=\n1=c\n10=\n2=a\n3=b\nx=5\nx\n"},
		{`BEGIN { k = 7; for (k in A) print 1; print k, (1 in A); A[1]; print k; }`, "", impl.RnEnd, "7 0\n7\n"},
		// The keys are those of the beginning, whatever becomes of the array.
		{`BEGIN { A[1]; A[2]; A[3]; for (k in A) { delete A[2]; A[k "x"]; print k; } for (k in A) print k; }`, "", impl.RnEnd, "1\n2\n3\n1\n1x\n2x\n3\n3x\n"},
		{`BEGIN { A[1]; A[2]; for (k in A) { split("p q r s", A); k = "changed"; } for (k in A) print k, A[k]; }`, "", impl.RnEnd, "1 p\n2 q\n3 r\n4 s\n"},
		{`BEGIN { A[1]; A[2]; for (k in A) for (k in A) print k; print k; }`, "", impl.RnEnd, "1\n2\n1\n2\n2\n"},
		{strings.ReplaceAll(`BEGIN { A["b"]; A["a"]; A["B"]; A["@"]; A["ab"]; A[-1]; A["a b"]; for (k in A) print k; }`, "@", "\xff"), "", impl.RnEnd, "-1\nB\na\na b\nab\nb\n\xff\n"},
		{`BEGIN { A["\\"]; A["é"]; A["z"]; A["~"]; for (k in A) print k; }`, "", impl.RnEnd, "\\\nz\n~\né\n"},
	})
}

func TestRunBreakAndContinue(t *testing.T) {
	checkAllRan(t, []ran{
		{`BEGIN { while ((i += 1) < 6) { if (i == 2) continue; if (i == 4) break; print i; } print "end" i; }`, "", impl.RnEnd, "1\n3\nend4\n"},
		{`BEGIN { for (i = 0; i < 6; i += 1) { if (i == 2) continue; if (i == 4) break; print i; } print "end" i; }`, "", impl.RnEnd, "0\n1\n3\nend4\n"},
		{`BEGIN { split("a b c d e f", A); for (k in A) { if (k == 2) continue; if (k == 4) break; print k, A[k]; } print "end" k; }`, "", impl.RnEnd, "1 a\n3 c\nend4\n"},
		{`BEGIN { while ((i += 1) < 3) { for (j = 0; j < 3; j += 1) { if (j == 1) break; print i, j; } print i; } }`, "", impl.RnEnd, "1 0\n1\n2 0\n2\n"},
		{`BEGIN { while ((i += 1) < 3) { for (j = 0; j < 3; j += 1) { if (j == 1) continue; print i, j; } print i; } }`, "", impl.RnEnd, "1 0\n1 2\n1\n2 0\n2 2\n2\n"},
		{`BEGIN { A[1]; A[2]; for (k in A) while (1) { print k; break; print 9; } print 3; }`, "", impl.RnEnd, "1\n2\n3\n"},
		{`BEGIN { A[1]; A[2]; for (i = 0; i < 2; i += 1) { for (k in A) { if (k == 2) { { break; } } else continue; print 9; } print i, k; } }`, "", impl.RnEnd, "0 2\n1 2\n"},
		// Without a loop they end the body.
		{`BEGIN { break; print 1; } BEGIN { print 2; continue; print 3; } { if (1) { break; } print 4; } { print 5; { continue; } print 6; } 1 { print 7; break; print 8; } END { break; print 9; } END { print 0; }`, "a\nb", impl.RnEnd, "2\n5\n7\n5\n7\n0\n"},
		{`BEGIN { while (0) { } break; print 1; }`, "", impl.RnEnd, ""},
		{`BEGIN { while ((i += 1) < 3) { f(); print i; } print f() "|"; } function f() { break; print 9; return 9; }`, "", impl.RnEnd, "1\n2\n|\n"},
		{`BEGIN { for (i = 0; i < 2; i += 1) { f(); print i; } print f() "|"; } function f() { if (1) { continue; } print 9; return 9; }`, "", impl.RnEnd, "0\n1\n|\n"},
		{`BEGIN { A[1]; for (k in A) { print f(5) k; } } function f(a) { while (1) { a += g(); if (a == 7) break; } return a; } function g() { continue; }`, "", impl.RnFuel, ""},
		{`BEGIN { A[1]; for (k in A) { print f(5) k; } } function f(a) { while (1) { a += 1 + g(); if (a == 7) break; } return a; } function g() { continue; }`, "", impl.RnEnd, "71\n"},
	})
}

func TestRunReturn(t *testing.T) {
	checkAllRan(t, []ran{
		{`BEGIN { print f() + 1; } function f() { while (1) { break; return 5; } for (i = 0; i < 3; i += 1) { if (i == 1) return i; } return 7; }`, "", impl.RnEnd, "2\n"},
		{`BEGIN { A["x"]; A["y"]; print f(A) f(B) "|"; } function f(a) { for (k in a) { while (1) return k; } return "none"; }`, "", impl.RnEnd, "xnone|\n"},
		{`BEGIN { print f() "|" g() "|" h() "|"; } function f() { return; print 9; } function g() { } function h() { return ""; return 9; }`, "", impl.RnEnd, "|||\n"},
		{`BEGIN { print (f() == 0), (f() == ""), (g() == 0), (g() == ""), f() + 1; } function f() { g(); return; } function g() { return ""; }`, "", impl.RnEnd, "1 1 0 1 1\n"},
		// What an inner function returns is not the value of the outer one.
		{`BEGIN { print f() "|" g() "|" h() "|"; } function f() { one(); } function g() { if (one()) return; } function h() { one(); break; } function one() { return 1; }`, "", impl.RnEnd, "|||\n"},
		{`BEGIN { return; print 1; } BEGIN { return 1 + f(); print 2; } { return; print 3; } { print 4; return x = 7; print 5; } END { while (1) return; print 6; } END { print x; } function f() { print 0; }`, "a\nb", impl.RnEnd, "0\n4\n4\n7\n"},
	})
}

func TestRunNext(t *testing.T) {
	checkAllRan(t, []ran{
		{`BEGIN { next; print 1; } BEGIN { print 2; } { print 3; next; print 4; } { print 5; } END { next; print 6; } END { print 7; }`, "a\nb", impl.RnEnd, "2\n3\n3\n7\n"},
		{`{ print 1; } NR == 1 { print 2; while (1) { next; } print 3; } { print 4; } NR == 2 { for (k in A) { } for (i = 0; 1; i += 1) if (i == 2) next; } { print 5; }`, "a\nb\nc", impl.RnEnd, "1\n2\n1\n4\n1\n4\n5\n"},
		{`BEGIN { f(1); print 1; } BEGIN { print 2; while (1) { x = 1 + g(2); } } { print 3, h() 4; print 5; } { print 6; } END { print h(); } END { print 7; } function f(a) { next; } function g(a) { f(a); print 8; } function h() { A[g(1)]; print 9; }`, "a\nb", impl.RnEnd, "2\n7\n"},
		{`f() { print 1; } { print 2; } END { print 3, g(4); } function f() { if (NR == 1) next; return NR == 2; } function g(a) { return a b; }`, "a\nb\nc", impl.RnEnd, "1\n2\n2\n3 4\n"},
		// The functions that it ends are no longer active, and their parameters are gone.
		{`BEGIN { f(); } { print g(p, 5) + 1; } function f() { if (1) next; } function g(a, b) { return b; }`, "a", impl.RnEnd, "6\n"},
		{`BEGIN { g(5, 6); } BEGIN { g(7); } function g(a, b) { print a, b; h(a); } function h(b) { print b, a; b = 1; next; }`, "", impl.RnEnd, "5 6\n5 \n7 \n7 \n"},
		{`{ f(19); } END { print g(19); } function f(n) { if (n == 0) next; f(n - 1); } function g(n) { if (n == 0) return "deep"; return g(n - 1); }`, "a\nb\nc", impl.RnEnd, "deep\n"},
	})
}

func TestRunExit(t *testing.T) {
	checkAllRan(t, []ran{
		{`BEGIN { exit; print 1; } { print 2; } END { print 3; }`, "a", impl.RnEnd, ""},
		{`{ print; f(); print 1; } END { print 3; } function f() { while (1) { g(1 + leave()); } } function g(a) { print 4; } function leave() { exit; }`, "a\nb", impl.RnEnd, "a\n"},
		{`END { print 1; exit; print 2; } END { print 3; }`, "a", impl.RnEnd, "1\n"},
		{`NR == f() { print 1; } function f() { exit; }`, "a", impl.RnEnd, ""},
		{`BEGIN { for (i = 0; i < 3; i += 1) { print i; if (i == 1) exit; } }`, "a", impl.RnEnd, "0\n1\n"},
	})
	for _, x := range []struct {
		value  string
		status int
	}{
		{"", 0}, {"0", 0}, {"3", 3}, {"-3", -3}, {"2.9", 2}, {"-2.9", -2}, {"0.999999", 0}, {"-0.5", 0}, {`"7x"`, 7}, {`"x"`, 0}, {`""`, 0}, {"x", 0}, {"NR", 0}, {"9000000", 9000000}, {"-9000000", -9000000}, {"$1", 0}, {"1 2", 12}, {"x = 5", 5},
	} {
		for _, src := range []string{"BEGIN { exit %; } END { exit 99; }", "BEGIN { f(); exit 98; } function f() { exit %; }", "END { exit %; } END { exit 99; }"} {
			src = strings.Replace(src, "%", x.value, 1)
			if r := checkRan(t, ran{src, "", impl.RnEnd, ""}); r.Status != x.status {
				t.Errorf("%s has the status %d; want %d", src, r.Status, x.status)
			}
		}
	}
	if r := checkRan(t, ran{"{ exit $2; }", "1 -7.5 3", impl.RnEnd, ""}); r.Status != -7 {
		t.Error(r.Status)
	}
	// A condition that ends the run before has no status.
	for _, src := range []string{"BEGIN { exit 1 / 0; }", "BEGIN { exit no(); }"} {
		if r := impl.Run(parsed(t, src), "", 50); r.Status != 0 || r.Code == impl.RnEnd {
			t.Error(src, resultText(r))
		}
	}
}

func TestRunDelete(t *testing.T) {
	checkAllRan(t, []ran{
		{`BEGIN { A[1] = 2; A["x"] = 3; delete A[1]; delete A[5]; print (1 in A), ("x" in A); delete A["x"]; print ("x" in A); A[1]; print A[1] "|"; }`, "", impl.RnEnd, "0 1\n0\n|\n"},
		{`BEGIN { A["1.5"]; A["02"]; delete A[1.50]; delete A[2]; for (k in A) print k; }`, "", impl.RnEnd, "02\n"},
		{`BEGIN { delete x[1]; print (1 in x); x[2] = 5; print x[2]; }`, "", impl.RnEnd, "0\n5\n"},
		{`BEGIN { delete x[1]; x = 2; }`, "", impl.RnSingle, ""},
		{`BEGIN { x = 1; print 1; delete x[print2()]; } function print2() { print 2; }`, "", impl.RnArray, "1\n2\n"},
		{`BEGIN { delete x[x = 1]; }`, "", impl.RnArray, ""},
		{`BEGIN { delete NR[1]; }`, "", impl.RnArray, ""},
		{`BEGIN { delete NF[f()]; } function f() { print 1; }`, "", impl.RnArray, "1\n"},
		{`BEGIN { A[1]; f(A); print (1 in A); } function f(a) { delete a[1]; }`, "", impl.RnEnd, "0\n"},
	})
}

func TestRunPrint(t *testing.T) {
	checkAllRan(t, []ran{
		{`{ print; print $0; print $2, $1; print ""; print "", ""; print 1, 2.50, -0.5, "x  y", u, $9; }`, " a  02 ", impl.RnEnd, " a  02 \n a  02 \n02 a\n\n \n1 2.5 -0.5 x  y  \n"},
		{`BEGIN { print "a\nb\tc\\d\"e"; print "100%", "%s"; }`, "", impl.RnEnd, "a\nb\tc\\d\"e\n100% %s\n"},
		{`{ print NF; print f(1), f(2); } function f(a) { print "in" a; return a; }`, "p q", impl.RnEnd, "2\nin1\nin2\n1 2\n"},
	})
}

func TestRunPrintf(t *testing.T) {
	checkAllRan(t, []ran{
		{`{ printf "x"; printf ""; printf "%s %d|%5s|%-5d|%%\n", $1, $2, $3, $2, "surplus"; printf "a\tb"; printf 12; printf $1, 1; printf u; }`, "p -2.75 q", impl.RnEnd, "xp -2|    q|-2   |%\na\tb12p"},
		{`BEGIN { printf "%s%s", f(1), f(2); printf f("%s|"), f(3); } function f(a) { print "in", a; return a; }`, "", impl.RnEnd, "in 1\nin 2\n12in %s|\nin 3\n3|"},
		{`{ printf $1, $2, $3; }`, "%d,%s 7x 7x", impl.RnEnd, "7,7x"},
	})
	for _, x := range []struct {
		code   int
		values string
	}{
		{impl.RnFormat, `"%s"`}, {impl.RnFormat, `"%d %d", 1`}, {impl.RnFormat, `"%"`}, {impl.RnFormat, `"%x", 1`}, {impl.RnFormat, `"%123s", 1`}, {impl.RnFormat, `"%" "q", f()`},
		{impl.RnFormat, `"%s%" "s", 1`}, {impl.RnLong, `"%s%s", "` + long(300) + `", "` + long(201) + `"`}, {impl.RnLong, `"%s.", "` + long(500) + `"`}, {impl.RnLong, `"%99d%99d%99d%99d%99d%9d", 1, 2, 3, 4, 5, 6`},
		{impl.RnFormat, `"` + long(499) + `%", f()`}, {impl.RnArgs, `"%q", no()`}, {impl.RnLong, `"` + long(501) + `"`}, {impl.RnLong, `"%s%s", "` + long(501) + `"`},
	} {
		checkRan(t, ran{"BEGIN { print 1; printf " + x.values + "; print 2; } function f() { }", "", x.code, "1\n"})
	}
	checkAllRan(t, []ran{
		{`BEGIN { printf "%s%s", "` + long(300) + `", "` + long(200) + `"; printf "%99d%99d%99d%99d%99d%5d", 1, 2, 3, 4, 5, 6; }`, "", impl.RnEnd, long(500) + strings.Repeat(" ", 98) + "1" + strings.Repeat(" ", 98) + "2" + strings.Repeat(" ", 98) + "3" + strings.Repeat(" ", 98) + "4" + strings.Repeat(" ", 98) + "5" + "    6"},
	})
}

// The output may have MaxOut bytes, and what would lead beyond them is not output
// at all.
func TestRunOutputLimit(t *testing.T) {
	lines := func(n, size int) string { return strings.Repeat(long(size-1)+"\n", n) }
	fill := func(size int) string { return `x = "` + long(size-1) + `"; for (i = 0; i < ` }
	for _, x := range []struct {
		statements string
		code       int
		out        string
	}{
		{fill(500) + "7; i += 1) print x;", impl.RnEnd, lines(7, 500)},
		{fill(500) + "8; i += 1) print x;", impl.RnEnd, lines(8, 500)},
		{fill(500) + "9; i += 1) print x;", impl.RnLong, lines(8, 500)},
		{fill(500) + "8; i += 1) print x; printf \"\"; printf u;", impl.RnEnd, lines(8, 500)},
		{fill(500) + "8; i += 1) print x; print \"\";", impl.RnLong, lines(8, 500)},
		{fill(500) + "8; i += 1) print x; print;", impl.RnLong, lines(8, 500)},
		{fill(500) + "8; i += 1) print x; printf 1;", impl.RnLong, lines(8, 500)},
		{fill(401) + "9; i += 1) print x; print substr(x, 1, 390);", impl.RnEnd, lines(9, 401) + lines(1, 391)},
		{fill(401) + "9; i += 1) print x; print substr(x, 1, 391);", impl.RnLong, lines(9, 401)},
		{fill(401) + "9; i += 1) print x; print substr(x, 1, 195), substr(x, 1, 194);", impl.RnEnd, lines(9, 401) + long(195) + " " + long(194) + "\n"},
		{fill(401) + "9; i += 1) print x; print substr(x, 1, 195), substr(x, 1, 195);", impl.RnLong, lines(9, 401)},
		{fill(401) + "9; i += 1) print x; printf substr(x, 1, 391);", impl.RnEnd, lines(9, 401) + long(391)},
		{fill(401) + "9; i += 1) print x; printf substr(x, 1, 392);", impl.RnLong, lines(9, 401)},
		{fill(401) + "9; i += 1) print x; printf \"%s\", substr(x, 1, 390); printf 1; printf 2;", impl.RnLong, lines(9, 401) + long(390) + "1"},
		{fill(500) + "1; i += 1) print x, x, x, x, x, x, x, x;", impl.RnEnd, strings.Repeat(long(499)+" ", 7) + long(499) + "\n"},
		{fill(501) + "1; i += 1) print x, x, x, x, x, x, x, x;", impl.RnLong, ""},
		{fill(500) + "1; i += 1) print x, x, x, x, x, x, x, x, u;", impl.RnLong, ""},
	} {
		r := checkRan(t, ran{"BEGIN { " + x.statements + " }", "", x.code, x.out})
		if len(r.Out) > impl.MaxOut {
			t.Error(x.statements, len(r.Out))
		}
	}
	checkRan(t, ran{"{ print; print; }", strings.Repeat(long(400)+"\n", 6), impl.RnLong, lines(9, 401)})
	checkRan(t, ran{"{ print; print; }", strings.Repeat(long(399)+"\n", 5), impl.RnEnd, lines(10, 400)})
}

func TestRunUnsetNames(t *testing.T) {
	checkValues(t, "", "x", "", "x + 1", "1", "-x", "0", "!x", "1", "(x == 0)", "1", "(x == \"\")", "1", "(x < 1)", "1", "(x < \"a\")", "1", "(x ? 1 : 2)", "2", "length(x)", "0", "(x || 0)", "0", "(x || 1)", "1", "(x && 1)", "0",
		"int(x)", "0", "toupper(x)", "", `substr("ab", x)`, "ab", `substr("ab", 1, x)`, "", `index("ab", x)`, "0", `index(x, "a")`, "0", `("" ~ x "^")`, "1", `$x "|"`, "|", `split(x, A)`, "0", "A[x] \"|\"", "|", "(x in A)", "0", "x x", "", "x y 1", "1",
		"(x == y)", "1", "(x += 2)", "2", "(x = y) \"|\"", "|")
	checkValues(t, "y = x; z = A[5];", "(y == 0)", "1", "(y == \"\")", "1", "(z == 0) (z == \"\")", "11", "(5 in A)", "1", "(6 in A)", "0")
	checkValues(t, "if (x) print 1; while (x) print 2;", "3", "3")
}

// Every place where a name can stand, with the name x. What is used as an array
// is used as one after the expressions in it.
func placesOfNames() (singles, arrays []string) {
	return []string{"x;", "x = 1;", "x += 1;", "print x;", "1 + x;", "x == 1;", "$x;", "$x = 1;", "A[x];", "x in A;", "if (x) 1;", "while (x) break;", "for (x; 0; 1) 2;", "for (1; x; 1) break;", "B[1]; for (x in B) 1;", "delete A[x];", "length(x);", "x ~ /a/;", "\"\" ~ x \"a\";", "!x;", "x ? 1 : 2;", "f(x + 1);", "f(x \"\");", "split(x, A);", "split(1, A, x);", "printf x;", "return x;", "x = x;"},
		[]string{"x[1];", "x[1] = 2;", "x[1] += 2;", "1 in x;", "split(1, x);", "split(1, x, 2);", "for (k in x) 1;", "delete x[1];", "x[1] in x;"}
}

func TestRunScalarsAndArrays(t *testing.T) {
	singles, arrays := placesOfNames()
	for _, array := range arrays {
		for _, use := range singles {
			checkStops(t, impl.RnSingle, array, use)
			checkRan(t, ran{"BEGIN { print 7; g(y); } function g(x) { " + array + " " + use + " print 8; } function f(a) { }", "", impl.RnSingle, "7\n"})
		}
		for _, use := range arrays {
			checkRan(t, ran{"BEGIN { print 7; " + array + " " + use + " print 8; }", "", impl.RnEnd, "7\n8\n"})
		}
		for _, set := range []string{"x = 1;", "x += 1;", "x = y;", "x = $1;", "x = \"\";", "B[1]; for (x in B) 1;", "x = x;"} {
			checkStops(t, impl.RnArray, set, array)
		}
		checkRan(t, ran{"BEGIN { print 7; x; if (x == 1) 2; length(x); " + array + " print 8; }", "", impl.RnEnd, "7\n8\n"})
		for _, nr := range []string{"NR", "NF"} {
			checkRan(t, ran{"BEGIN { print 7; " + strings.ReplaceAll(array, "x", nr) + " print 8; }", "", impl.RnArray, "7\n"})
			// A parameter may have any name.
			checkRan(t, ran{"BEGIN { print 7; f(y); f(B); f(); } function f(" + nr + ") { " + strings.ReplaceAll(array, "x", nr) + " print 8; }", "", impl.RnEnd, "7\n8\n8\n8\n"})
		}
	}
	// An unset name may be read, and then be used as an array.
	checkRan(t, ran{"BEGIN { print x, x + 1; x[1] = 5; print x[1]; }", "", impl.RnEnd, " 1\n5\n"})
}

// What is evaluated before a name is used in the wrong way.
func TestRunOrderBeforeWrongUse(t *testing.T) {
	for _, x := range []struct {
		before, statement string
		code              int
		out               string
	}{
		{"A[1];", "A = f(2);", impl.RnSingle, "2"}, {"A[1];", "A += f(2);", impl.RnSingle, ""}, {"A[1];", "print f(1), A, f(2);", impl.RnSingle, "1"},
		{"x = 1;", "x[f(2)];", impl.RnArray, "2"}, {"x = 1;", "x[f(2)] = f(3);", impl.RnArray, "23"}, {"x = 1;", "x[f(2)] += f(3);", impl.RnArray, "2"}, {"x = 1;", "f(2) in x;", impl.RnArray, "2"},
		{"x = 1;", "split(f(2), x, f(3));", impl.RnArray, "23"}, {"x = 1;", "delete x[f(2)];", impl.RnArray, "2"}, {"x = 1;", "for (k in x) f(2);", impl.RnArray, ""},
		{"", "x[x = 1];", impl.RnArray, ""}, {"", "x[1] = (x = f(2));", impl.RnArray, "2"}, {"", "(x = f(2)) in x;", impl.RnArray, "2"}, {"", "x = x[1];", impl.RnSingle, ""}, {"", "x += x[f(1)];", impl.RnSingle, "1"}, {"", "x[1] += (x = f(2));", impl.RnSingle, "2"},
		{"", "split(x = f(2), x);", impl.RnArray, "2"}, {"", "NR = f(2);", impl.RnSet, "2"}, {"", "NF += f(2);", impl.RnSet, "2"}, {"", "NR[f(2)] = f(3);", impl.RnArray, "23"}, {"", "NR[f(2)] += f(3);", impl.RnArray, "2"}, {"", "f(2) in NF;", impl.RnArray, "2"},
		{"", "split(f(2), NF, f(3));", impl.RnArray, "23"}, {"", "for (k in NR) f(2);", impl.RnArray, ""}, {"A[1];", "for (NR in A) f(2);", impl.RnSet, ""}, {"", "for (NR in A) f(2); f(3);", impl.RnEnd, "3"}, {"A[1];", "for (A in A) f(2);", impl.RnSingle, ""},
		{"", "for (x in x) f(2); f(3);", impl.RnEnd, "3"}, {"x[1];", "for (x in x) f(2);", impl.RnSingle, ""}, {"", "NR += 9000000 + f(0);", impl.RnSet, "0"}, {"$5 = 1;", "NF += 9000000;", impl.RnOver, ""}, {"", "$51 = f(2);", impl.RnLong, "2"}, {"", "$51 += f(2);", impl.RnLong, ""},
		{"", "$f(99) = f(2);", impl.RnLong, "992"}, {"", "$(-1) = f(2);", impl.RnLong, "2"}, {"", "f(1) / 0 + f(2);", impl.RnDivide, "1"}, {"", "f(1) / (0 * f(2));", impl.RnDivide, "12"}, {"", "f(\"a\") ~ /(/;", impl.RnConst, "a"}, {"", "f(\"a\") ~ f(\"(\");", impl.RnRe, "a("},
		{"", "f(f(1) f(2));", impl.RnEnd, "1212"}, {"", "no(f(1));", impl.RnArgs, ""}, {"", "f(f(1), f(2));", impl.RnArgs, ""}, {"", "g(f(1), f(2));", impl.RnArgs, ""},
	} {
		checkRan(t, ran{"BEGIN { " + x.before + " " + x.statement + " } function f(a) { printf \"%s\", a; return a; } function g() { }", "", x.code, x.out})
	}
}

func TestRunCounters(t *testing.T) {
	checkAllRan(t, []ran{
		{`{ print NR, NF, NR + NF, NR NF, (NR == "1"), (NR == 1), -NF, $NF, $NR; }`, "a b\nc d e", impl.RnEnd, "1 2 3 12 1 1 -2 b a\n2 3 5 23 0 0 -3 e d\n"},
		{`{ $5 = "x"; print NF; $0 = "a"; print NF; $0 = ""; print NF; $3 = ""; print NF "|" $0 "|"; $1 = "p q"; print NF, $1 "," $2; }`, "a b", impl.RnEnd, "5\n1\n0\n3|  |\n3 p q,\n"},
		{`{ f(NR, NF); } function f(a, b) { print a, b; a = 7; b += 1; print a, b, NR, NF; $9 = 1; print a, b, NR, NF; }`, "x y", impl.RnEnd, "1 2\n7 3 1 2\n7 3 1 9\n"},
		{`BEGIN { f(NR); } function f(a) { a[1]; }`, "", impl.RnArray, ""},
		{`BEGIN { f(1, 2); print NR, NF; } function f(NR, NF) { print NR, NF; NR = 5; NF += 1; print NR, NF; A[7]; for (NR in A) print NR; }`, "", impl.RnEnd, "1 2\n5 3\n7\n0 0\n"},
		{`BEGIN { f(NR); f(x); print x[2]; } function f(NR) { g(NR); } function g(a) { if (n) a[2] = 6; n += 1; }`, "", impl.RnEnd, "6\n"},
		{`BEGIN { f(); } function f(NF) { g(); } function g() { print NF; NF = 1; }`, "", impl.RnSet, "0\n"},
		{`BEGIN { print 1; NR = 2; }`, "", impl.RnSet, "1\n"},
		{`BEGIN { print 1; NF = 0; }`, "", impl.RnSet, "1\n"},
		{`{ print 1; NR += 0; }`, "a", impl.RnSet, "1\n"},
		{`{ print 1; NF += 1; }`, "a", impl.RnSet, "1\n"},
		{`BEGIN { A[1]; for (NF in A) print 1; }`, "", impl.RnSet, ""},
		{`BEGIN { x = NR = 1; }`, "", impl.RnSet, ""},
		{`END { for (i = 0; i < 3; i += 1) { $0 = $0 " x"; print NR, NF; } }`, "a\nb", impl.RnEnd, "2 2\n2 3\n2 4\n"},
	})
}

func TestRunParametersAndGlobals(t *testing.T) {
	checkAllRan(t, []ran{
		{`BEGIN { x = 1; f(2); print x, y; } function f(x) { print x; x = 3; y = 4; print x; g(); } function g() { print x; x = 5; }`, "", impl.RnEnd, "2\n3\n1\n5 4\n"},
		{`BEGIN { a = 1; f(); print a; } function f(a) { print a "|"; a = 2; print a; f2(); } function f2() { print a; }`, "", impl.RnEnd, "|\n2\n1\n1\n"},
		{`BEGIN { f(1, 2); f(1); f(); g(5, 6, 7); g(); } function f(a, a) { print a "|"; a = 3; print a; } function g(b, a, b) { print b, a; }`, "", impl.RnEnd, "1|\n3\n1|\n3\n|\n3\n5 6\n \n"},
		{`BEGIN { f(1, 2, 3, 4); f(1, 2, x, x); f(A, A, A, A); } function f(a, a, b, b) { if ((n += 1) < 3) print a, b; }`, "", impl.RnEnd, "1 3\n1 \n"},
		{`BEGIN { f(A, 5); print A[1]; } function f(a, a) { a[1] = 2; }`, "", impl.RnEnd, "2\n"},
		{`BEGIN { f(5, A); } function f(a, a) { print a; a[1] = 2; }`, "", impl.RnArray, "5\n"},
		// Functions with one name have the parameters of all of them.
		{`BEGIN { b = 7; f(1); print b; f(2); } function f(a) { print a, b "|"; b = 5; print b; } function f(b) { print "never"; }`, "", impl.RnEnd, "1 |\n5\n7\n2 |\n5\n"},
		{`BEGIN { f(1, 2); } function f(a) { } function f(a, b) { }`, "", impl.RnArgs, ""},
		{`BEGIN { f(1, 2); print "end"; } function f(a, b) { } function f(a) { }`, "", impl.RnEnd, "end\n"},
		{`BEGIN { f(3); } function f(f) { print f; if (f) f(f - 1); }`, "", impl.RnEnd, "3\n2\n1\n0\n"},
		{`BEGIN { x = 5; x(x); print x; } function x(y) { print y; x = 6; }`, "", impl.RnEnd, "5\n6\n"},
	})
}

func TestRunNumbersAndStrings(t *testing.T) {
	checkValues(t, "", "1.50", "1.5", "0.000001", "0.000001", "007", "7", "9000000", "9000000", `""`, "", `"a\tb\\"`, "a\tb\\", `"1.50"`, "1.50", `("1.50" == 1.5)`, "0", `("1.50" + 0 == 1.5)`, "1", `("10" < "9")`, "1", "(10 < 9)", "0", `(10 < "9")`, "1",
		"1 + 2", "3", "1 - 2", "-1", "0.1 * 0.1", "0.01", "7 / 2", "3.5", "-7 / 2", "-3.5", "1 / 3", "0.333333", "7 % 3", "1", "-7 % 3", "-1", "7.5 % 2", "1.5", "7 % -0.4", "0.2", `"3x" + "4y"`, "7", `"x" * 5`, "0", `-"12z"`, "-12", "-(-5)", "5", "- -5", "5", "0 / 5", "0", "-0", "0",
		"9000000 - 1 + 1", "9000000", "-9000000", "-9000000", "0.000001 * 0.1", "0", "1 / 9000000", "0",
		"1 2", "12", `"a" "b" "c"`, "abc", "1 -1", "0", "1 (-1)", "1-1", "0.5 0.5", "0.50.5", `1 + 2 "x"`, "3x", `("" "" == "")`, "1", "x = 1 2", "12", "(x = 1 2) + 1", "13")
	checkValues(t, "", "(1 < 2) (2 < 2) (3 < 2)", "100", "(1 <= 2) (2 <= 2) (3 <= 2)", "110", "(1 == 2) (2 == 2)", "01", "(1 != 2) (2 != 2)", "10", `("a" < "b") ("b" < "a") ("a" <= "a") ("a" == "a ") ("a" != "a ")`, "10101",
		"(!0) (!1) (!\"\") (!\"0\") (!x) (!-1)", "101010", "(1 && 2) (1 && 0) (0 && 1) (x && 1)", "1000", "(1 || 0) (0 || 2) (0 || 0) (\"\" || \"0\")", "1101", "(1 ? \"a\" : \"b\") (0 ? \"a\" : \"b\")", "ab", "1 ? 0 ? 2 : 3 : 4", "3",
		"int(2.9)", "2", "int(-2.9)", "-2", `int("3.7x")`, "3", "int(-0.5)", "0", `int("x")`, "0", `toupper("aZé{`+"`"+`z1")`, "AZé{`Z1", "toupper(1.5)", "1.5", `length("")`, "0", `length("é\n")`, "3", "length(1.50)", "3", "length 5", "05", "length(x)", "0",
		`index("abcabc", "ca")`, "3", `index("abc", "")`, "0", `index("", "")`, "0", `index("", "a")`, "0", `index("abc", "abcd")`, "0", `index("abc", "abc")`, "1", `index(12.5, ".")`, "3", `index("abc", "c")`, "3", `index("aé", "é")`, "2")
	checkStops(t, impl.RnOver, "", "x = 9000000 + 0.000001;")
	checkStops(t, impl.RnOver, "", "x = -9000000 - 1;")
	checkStops(t, impl.RnOver, "", "x = 3000.1 * 3000;")
	checkStops(t, impl.RnOver, "", "x = 9000000 / 0.5;")
	checkStops(t, impl.RnOver, "x = 9000000;", "x += 0.000001;")
	checkStops(t, impl.RnOver, "x = \"99999999\";", "x += 1;")
	checkStops(t, impl.RnDivide, "", "x = 1 / 0;")
	checkStops(t, impl.RnDivide, "", "x = 1 % 0;")
	checkStops(t, impl.RnDivide, "", "x = 0 / u;")
	checkStops(t, impl.RnDivide, "", "x = 0 % \"x\";")
	checkStops(t, impl.RnDivide, "", "x = 9000000 / 0.0000001;")
	checkStops(t, impl.RnDivide, "", "x = NR / NF;")
	checkRan(t, ran{"BEGIN { x = 9000000 + 0; y = x - x; z = -x; x += z; print x, y, z * -1; }", "", impl.RnEnd, "0 0 9000000\n"})
}

// Each kind of expression, of each kind of value, compared with the model.
func TestRunOfEachKindOfValue(t *testing.T) {
	t.Parallel()
	values := []string{"u", "0", "2.5", "-3", "\"\"", "\"2.50\"", "\"3x\"", "\"abc\"", "$1", "$2", "$3", "$4", "A[1]", "A[2]", "f(\"\")", "f(7)", "f()", "NR"}
	singles := []string{"%", "-%", "!%", "length(%)", "int(%)", "toupper(%)", "$(%)", "A[%]", "% in A", "% ? 1 : 2", "split(%, B)", "f(%)", "z = %", "z += %", "A[1] = %", "A[3] += %", "$1 = %", "$1 += %", "$0 = %", "% ~ /^$|2/", "substr(\"abcd\", %)"}
	pairs := []string{"%1 + %2", "%1 - %2", "%1 * %2", "%1 / %2", "%1 % %2", "%1 (%2)", "%1 < %2", "%1 <= %2", "%1 == %2", "%1 != %2", "%1 && %2", "%1 || %2", "%1 ~ %2", "%1 !~ %2", "index(%1, %2)", "split(%1, B, %2)", "substr(%1, %2)", "substr(\"abcd\", %1, %2)", "u ? %1 : %2", "(z = %1) + (z += %2)"}
	run := func(e string) {
		src := "{ A[1] = \"5\"; x = (" + e + "); printf \"%s|%d|\", x, x; print (x == 2.5), (x == \"2.5\"), (x ? 1 : 0), NF, $0, (1 in B); } function f(a) { return a; }"
		p := parsed(t, src)
		d := traceOf(p, "02 ab 2.50 -0 4", impl.MaxFuel)
		checkFuel(t, src, p, "02 ab 2.50 -0 4", d, impl.MaxFuel)
	}
	for _, a := range values {
		for _, e := range singles {
			run(strings.ReplaceAll(e, "%", a))
		}
		for _, b := range values {
			for _, e := range pairs {
				run(strings.NewReplacer("%1", a, "%2", b).Replace(e))
			}
		}
	}
}

// The strings at the limit, and one byte beyond it.
func TestRunLongStrings(t *testing.T) {
	half := `x = "` + long(250) + `";`
	checkValues(t, half, "length(x x)", "500", "length(x x \"\")", "500", "length(\"\" x x)", "500", "length(toupper(x x))", "500", "substr(x x, 500)", "x", "substr(x x, 501) \"|\"", "|", "index(x x \"\", \"y\")", "0")
	checkValues(t, half, `length("`+long(500)+`")`, "500")
	for _, e := range []string{"x x 1", "x x x", "1 (x x)", "(x x) \"é\""} {
		checkStops(t, impl.RnLong, half, e+";")
	}
	checkStops(t, impl.RnLong, "", `"`+long(501)+`";`)
	checkStops(t, impl.RnLong, "", `"`+long(501)+`" ~ /a/;`)
	checkStops(t, impl.RnLong, "", `x = "`+long(2000)+`";`)
	checkRan(t, ran{"{ print length($0 $1); }", long(250), impl.RnEnd, "500\n"})
	checkRan(t, ran{"{ print 1; $0 $1; }", long(251), impl.RnLong, "1\n"})
	checkRan(t, ran{"BEGIN { if (0) \"" + long(501) + "\"; print 1; }", "", impl.RnEnd, "1\n"})
}

func TestRunSubstrings(t *testing.T) {
	checkValues(t, `s = "hello";`, "substr(s, 1)", "hello", "substr(s, 2)", "ello", "substr(s, 5)", "o", "substr(s, 6)", "", "substr(s, 99)", "", "substr(s, 0)", "hello", "substr(s, -3)", "hello", "substr(s, 2.9)", "ello", "substr(s, -0.9)", "hello", `substr(s, "3x")`, "llo",
		"substr(s, 2, 3)", "ell", "substr(s, 2, 0)", "", "substr(s, 2, -1)", "", "substr(s, 2, 99)", "ello", "substr(s, 0, 2)", "h", "substr(s, -1, 2)", "", "substr(s, -1, 3)", "h", "substr(s, -1, 99)", "hello", "substr(s, 5, 1)", "o", "substr(s, 6, 1)", "", "substr(s, 1, 5)", "hello", "substr(s, 1, 4.9)", "hell",
		"substr(s, 1.9, 1.9)", "h", "substr(s, 0.9, 1.9)", "", "substr(s, -0.9, 2)", "h", "substr(s, -9000000, 9000000)", "", "substr(s, -8999999, 9000000)", "", "substr(s, -8999998, 9000000)", "h", "substr(s, 1, 9000000)", "hello", "substr(s, 9000000, 9000000)", "", "substr(12345, 2, 2)", "23", `substr("", 1)`, "", `substr("é", 2) == "\n"`, "0",
		"substr(s, 1, u)", "", "substr(s, u, 2)", "h")
	for from := -3; from <= 6; from++ {
		for size := -2; size <= 9; size++ {
			want := ""
			for at := from; at < from+size; at++ {
				if at >= 1 && at <= 4 {
					want += "abcd"[at-1 : at]
				}
			}
			checkRan(t, ran{"BEGIN { print substr(\"abcd\", " + wholeText(from) + ", " + wholeText(size) + "); }", "", impl.RnEnd, want + "\n"})
		}
	}
}

func wholeText(n int) string { return impl.DecText(n * impl.One) }

func TestRunFieldsRead(t *testing.T) {
	line := strings.Repeat("f ", 60) // of which there are only 50 fields
	checkAllRan(t, []ran{
		{`{ print $1, $2, $NF, $(NF - 1), $0, $3 "|", $(NF + 1) "|", $50 "|"; }`, "a  b", impl.RnEnd, "a b b a a  b | | |\n"},
		{`{ print $0.9, $1.9, $(-0.5), $"1x", $x, $"", $$1, $($2 - 1); }`, "2 3", impl.RnEnd, "2 3 2 2 3 2 2 3 2 3 3 3\n"},
		{`{ print NF, $50, $51; }`, line, impl.RnLong, ""},
		{`{ print NF, $50; $NF = "l"; print $50, length; }`, line, impl.RnEnd, "50 f\nl 99\n"},
		{`{ print $50.9 "|"; $50.9; print $51; }`, "a", impl.RnLong, "|\n"},
		{`{ print 1; $(-1); }`, "a", impl.RnLong, "1\n"},
		{`{ print 1; $(-1.5); }`, "a", impl.RnLong, "1\n"},
		{`{ print 1; $9000000; }`, "a", impl.RnLong, "1\n"},
		{`{ print 1; $(-9000000); }`, "a", impl.RnLong, "1\n"},
		{`BEGIN { print $0 $1 $50 "|"; $51; }`, "", impl.RnLong, "|\n"},
		// A field that looks like a number is one, and one that is not there is unset.
		{`{ print ($1 == 2), ($1 == "2"), ($1 < 10), ($2 < 10), ($3 == 0), ($3 == ""), ($4 == 0), ($0 == 2), !$5, !$1; }`, "02 x2", impl.RnEnd, "1 0 1 0 1 1 1 0 1 0\n"},
		{`{ print ($0 == 2), ($0 == "2"), ($0 == " 2"), ($0 "" == 2), length($0); }`, " 2", impl.RnEnd, "1 0 1 0 2\n"},
		{`{ print ($1 == ""), ($1 == 0), !$1, ($1 ? 1 : 0); $1 = ""; print ($1 == ""), ($1 == 0), !$1; $1 = "0"; print !$1; $1 = 0; print !$1, ($1 == "0.0"), ($1 == 0); }`, "\n", impl.RnEnd, "1 1 1 0\n1 0 1\n1\n1 0 1\n"},
	})
}

func TestRunFieldsSet(t *testing.T) {
	checkAllRan(t, []ran{
		{`{ $2 = "z"; print; print NF; $1 = "p q"; print; print NF, $1, $2; }`, "a  b   c", impl.RnEnd, "a z c\n3\np q z c\n3 p q z\n"},
		{`{ $3 = "z"; print $0 "|" NF; $1 = ""; print $0 "|" NF; $2 = 5; print $0 "|" NF; }`, "a", impl.RnEnd, "a  z|3\n  z|3\n 5 z|3\n"},
		{`{ $0 = "  x 1  "; print NF, $1, $2; print $0 "|"; $1 = $1; print $0 "|"; $0 = 2.50; print $0, NF; $0 = ""; print $0 NF; $0 = u; print $0 NF; }`, "a b c", impl.RnEnd, "2 x 1\n  x 1  |\nx 1|\n2.5 1\n0\n0\n"},
		{`{ x = ($2 = "07"); print x, (x == 7), ($2 == 7); y = ($2 = 8); print y, (y == 8), ($2 == "8"), ($2 == 8); z = ($2 = u); print z "|", (z == 0), ($2 == 0); }`, "a b", impl.RnEnd, "07 0 1\n8 1 1 1\n| 1 0\n"},
		{`{ $1 += 5; print $1, ($1 += "2x"), $0; $3 += 1; print; $0 += 4; print; print NF; $9 += 0; print; }`, "1.5x b", impl.RnEnd, "6.5 8.5 8.5 b\n8.5 b 1\n12.5\n1\n12.5        0\n"},
		{`{ $(1 + 1) = $1; $1 = $2 "y"; print; $NF = ""; print $0 "|" NF; }`, "a", impl.RnEnd, "ay a\nay |2\n"},
		{`{ $1 = "a\nb\tc"; print; print NF; $0 = $0; print NF, $2; }`, "x", impl.RnEnd, "a\nb\tc\n1\n3 b\n"},
		{`{ $0.9 = "p q"; print NF; $(-0.9) = "r"; print; $1.9 = "s"; print; }`, "x y z", impl.RnEnd, "2\nr\ns\n"},
		{`{ $50 = 1; print NF, length; $50.5 = 2; print $50; $51 = 3; }`, "\n", impl.RnLong, "50 50\n2\n"},
		{`{ print 1; $51 = 1; }`, "\n", impl.RnLong, "1\n"},
		{`{ print 1; $(-1) = 1; }`, "\n", impl.RnLong, "1\n"},
		{`{ print 1; $51 += 1; }`, "\n", impl.RnLong, "1\n"},
		{`{ print 1; $(-1) += 1; }`, "\n", impl.RnLong, "1\n"},
		{`{ print 1; $9000000 = 1; }`, "\n", impl.RnLong, "1\n"},
		{`BEGIN { $2 = "x"; print NF, $0; } { print NF; }`, "p", impl.RnEnd, "2  x\n1\n"},
		{`{ $0 = "1 2 3"; $2 = ""; print $0 "|" NF; $0 = $0; print $0 "|" NF; }`, "\n", impl.RnEnd, "1  3|3\n1  3|2\n"},
		{`{ $0 = x = " a"; print $1, x "|"; $($0 = "2 c") = 3; print; }`, "\n", impl.RnEnd, "a  a|\n2 3\n"},
	})
	// A record has at most 500 bytes, however it comes to be.
	for _, x := range []struct {
		input, statement, out string
		code                  int
	}{
		{long(498), `$2 = "y"; print length;`, "500\n", impl.RnEnd},
		{long(499), `$2 = ""; print length, NF;`, "500 2\n", impl.RnEnd},
		{long(499), `print 1; $2 = "y";`, "1\n", impl.RnLong},
		{long(500), `print 1; $1 = $1; print 2; $2 = "";`, "1\n2\n", impl.RnLong},
		{long(451), `$50 = ""; print length;`, "500\n", impl.RnEnd},
		{long(452), `print 1; $50 = ""; print length;`, "1\n", impl.RnLong},
		{long(451), `print 1; $50 = "y";`, "1\n", impl.RnLong},
		{long(500), `$1 = 1; $50 = $1; print length, NF;`, "51 50\n", impl.RnEnd},
		{long(250) + "    " + long(246), `$1 = $1; print length;`, "497\n", impl.RnEnd},
		{long(400), `$2 = substr($1, 1, 99); print length; $2 = substr($1, 1, 100); print 2;`, "500\n", impl.RnLong},
		{long(499), `print 1; $2 += 0;`, "1\n", impl.RnLong},
		{long(498), `$2 += 7; print length;`, "500\n", impl.RnEnd},
		{long(500), `$0 = $0 ""; $0 = $1; print length; $0 = $0 1;`, "500\n", impl.RnLong},
	} {
		checkRan(t, ran{"{ " + x.statement + " }", x.input, x.code, x.out})
	}
}

func TestRunElements(t *testing.T) {
	checkAllRan(t, []ran{
		{`BEGIN { A[1] = "x"; A["1"] = A[1] "y"; print A[1], A[1.0], A["1.0"] "|"; A[-0] = 5; print A["0"], (0 in A), ("-0" in A), ("1.0" in A); }`, "", impl.RnEnd, "xy xy |\n5 1 0 1\n"},
		{`{ A[$1] = 1; A[$2] = 2; for (k in A) print k "=" A[k]; print (2 in A), ("02" in A); }`, "02 2", impl.RnEnd, "02=1\n2=2\n1 1\n"},
		{`BEGIN { A[u] = 3; print A[""], ("" in A), (u in A), (0 in A); }`, "", impl.RnEnd, "3 1 1 0\n"},
		{`BEGIN { print (1 in A), (A[1] == 0), (A[1] == ""), (1 in A), A[1] + 1; }`, "", impl.RnEnd, "0 1 1 1 1\n"},
		{`BEGIN { A[1] += 5; A[1] += "2x"; print A[1], A[2] += 0, (A[1] = "s") A[1]; A["x"] = A["y"] = 4; print A["x"] A["y"]; }`, "", impl.RnEnd, "7 0 ss\n44\n"},
		{`{ A[1] = $1; print (A[1] == 2), (A[1] == "2"); A[1] = A[1] ""; print (A[1] == 2); A[1] = $2; print A[1] "|", (A[1] == 0), (1 in A); }`, "02", impl.RnEnd, "1 0\n0\n| 1 1\n"},
		{`BEGIN { x = "k"; A[x] = x; A[A[x]] = 2; print A["k"]; B["k"] = "z"; A[B["k"]] = 7; print A["z"], (("k" in B) in A); }`, "", impl.RnEnd, "2\n7 0\n"},
		{`BEGIN { A[1] = f(); print A[1], (2 in A); } function f() { print (1 in A); A[2] = 5; return 6; }`, "", impl.RnEnd, "0\n6 1\n"},
		{`BEGIN { A[1] += f(); print A[1], (2 in A); A[3] += g(); print A[3]; } function f() { print (1 in A); A[2] = 5; A[1] = 100; return 6; } function g() { delete A[3]; return 1; }`, "", impl.RnEnd, "1\n6 1\n1\n"},
		{`BEGIN { A["x"]; A = 1; }`, "", impl.RnSingle, ""},
	})
	// An array has at most 60 keys.
	fill := `for (i = 1; i <= 60; i += 1) A[i] = i; print 1; `
	for _, x := range []struct {
		statement, out string
		code           int
	}{
		{`A[60] = 1; A[1]; A[2] += 1; print (61 in A);`, "0\n", impl.RnEnd}, {`A[61];`, "", impl.RnLong}, {`A[61] = 1;`, "", impl.RnLong}, {`A[61] += 1;`, "", impl.RnLong}, {`A[""];`, "", impl.RnLong}, {`print A[60]; A[61] = f(2);`, "60\n2\n", impl.RnLong}, {`A[61] += f(2);`, "", impl.RnLong},
		{`delete A[7]; A["x"] = 1; print A["x"]; A[7];`, "1\n", impl.RnLong}, {`split("a b", A); print A[2] (3 in A); A[3]; print 5;`, "b0\n5\n", impl.RnEnd}, {`g(A);`, "", impl.RnLong}, {`delete A[61]; A[61 - 1] = 5; B[61] = 5; print A[60];`, "5\n", impl.RnEnd}, {`for (k in A) n += k; print n;`, "1830\n", impl.RnEnd},
		{`A[1] += h();`, "", impl.RnLong}, {`split("", A); for (i = 1; i <= 60; i += 1) A[i "x"]; print 2; A[1];`, "2\n", impl.RnLong},
	} {
		checkRan(t, ran{"BEGIN { " + fill + x.statement + " } function f(a) { print a; } function g(a) { a[61] = 2; } function h() { delete A[1]; A[\"y\"]; }", "", x.code, "1\n" + x.out})
	}
}

// The operands of the target, then its value for +=, then the value, and only then
// the target is set.
func TestRunOrderOfAssignment(t *testing.T) {
	checkAllRan(t, []ran{
		{`BEGIN { A[f("k")] = f("v"); $f(2) = f("w"); A[f("k")] += f("x"); $f(1) += f("y"); } function f(a) { printf "%s", a; return a; }`, "", impl.RnEnd, "kv2wkx1y"},
		{`BEGIN { i = 1; A[i] = i = 2; print A[1] "|" A[2] "|" i; }`, "", impl.RnEnd, "2||2\n"},
		{`BEGIN { i = 1; A[i = 3] = i; print A[3], i; A[i += 1] = i; print A[4]; }`, "", impl.RnEnd, "3 3\n4\n"},
		{`BEGIN { x = 1; x += x = 5; print x; x = x += 1; print x; x += x += x; print x; }`, "", impl.RnEnd, "6\n7\n21\n"},
		{`BEGIN { x = 1; y = x + (x = 10) + x; print y; print x, x = 2, x; print x (x = 3) x; }`, "", impl.RnEnd, "21\n10 2 2\n233\n"},
		{`{ $1 = $1 ($1 = "q") $1; print; $2 = NF = 1; }`, "a b", impl.RnSet, "aqq b\n"},
		{`{ $NF = $3 = "z"; print; $(NF + 1) = NF; print; $1 += $1 = 4; print; }`, "5 b", impl.RnEnd, "5 z z\n5 z z 3\n9 z z 3\n"},
		{`{ $2 = $0 = "p q r"; print; print NF, $2; $2 += $0 = "1 2 3"; print; }`, "5 b", impl.RnEnd, "p p q r r\n3 p q r\n1 1 3\n"},
		{`{ A[$1] = $1 = "k"; print A["5"] A["k"] "|"; A[NF] += $4 = 1; print A[2], NF; }`, "5 b", impl.RnEnd, "k|\n1 4\n"},
	})
}

func TestRunRegularExpressions(t *testing.T) {
	checkAllRan(t, []ran{
		{`{ print /b/, /^b/, !/z/, /b/ + 1, (/a/ ? 1 : 2), (/b/ == 1), /./ (/y/), ($2 ~ /b/), ($1 ~ /b/), ($1 !~ /b/), ("b" ~ $2), ("xbx" ~ "^b"), ("xbx" !~ "^b"); }`, "a b", impl.RnEnd, "1 0 1 2 1 1 10 1 0 1 1 0 1\n"},
		{`{ print (/b/ ~ /1/), (/b/ ~ /b/), (/z/ ~ 0), ("1" ~ (/b/ "")), ("b" ~ (/b/ "")), (1 ~ /b/ ""); }`, "b", impl.RnEnd, "1 0 1 1 0 1\n"},
		{`{ r = /b/; print r, ("b" ~ r), ("1" ~ r); $0 = "zz"; print /b/, /z/, r; }`, "b", impl.RnEnd, "1 0 1\n0 1 1\n"},
		{`BEGIN { print /x/, /^$/, ("" ~ /^$/), (u ~ /^$/), (1.50 ~ /^1\.5$/), ("a.b" ~ "a\\.b"), ("axb" ~ "a\\.b"), ("a/b" ~ /a\/b/), (12 ~ 2), (12 ~ 3), ("" ~ "x*"); }`, "", impl.RnEnd, "0 1 1 1 1 1 0 1 1 0 1\n"},
		{`/a/ && /b/ { print 1, $0; } !/a/ { print 2, $0; } $2 ~ /^[0-9]+$/ { print 3, $2; }`, "ab\nb 12\nc 1x", impl.RnEnd, "1 ab\n2 b 12\n3 12\n2 c 1x\n"},
		{`BEGIN { $0 = "` + long(500) + `"; print /x$/, /^x+$/, ($0 ~ "y"), ($0 ~ /x/); }`, "", impl.RnEnd, "1 1 0 1\n"},
	})
	for _, re := range []string{"*", "(", "a)", "[", "a|", "+a", "[z-a]"} {
		checkStops(t, impl.RnConst, "", "x = /"+re+"/;")
		checkStops(t, impl.RnConst, "", "\"a\" ~ /"+re+"/;")
		checkStops(t, impl.RnConst, "", "\"a\" !~ /"+re+"/;")
		checkStops(t, impl.RnConst, "", "/"+re+"/ ~ /a/;")
		checkStops(t, impl.RnConst, "", "/"+re+"/ ~ \"(\";")
		checkStops(t, impl.RnRe, "", "\"a\" ~ \""+re+"\";")
		checkStops(t, impl.RnRe, "x = \""+re+"\";", "\"a\" !~ x;")
		checkStops(t, impl.RnRe, "", "/a/ ~ \""+re+"\";")
		checkRan(t, ran{"BEGIN { if (0) { x = /" + re + "/; 1 ~ /" + re + "/; 1 ~ \"" + re + "\"; } print 1; }", "", impl.RnEnd, "1\n"})
		for _, cond := range []string{"/%/", "1 ~ /%/", "1 !~ /%/", "!/%/", "/%/ || 1", "0 || 1 !~ /%/"} {
			checkRan(t, ran{"BEGIN { print 1; } " + strings.ReplaceAll(cond, "%", re) + " { print 2; } END { print 3; }", "a", impl.RnConst, "1\n"})
		}
	}
	checkStops(t, impl.RnRe, "", "\"a\" ~ \"\";")
	checkStops(t, impl.RnRe, "", "\"a\" ~ u;")
	checkRan(t, ran{`{ print 1; 1 ~ $2; }`, "a", impl.RnRe, "1\n"})
	checkRan(t, ran{`{ print 1; 1 ~ $1; }`, "a*(", impl.RnRe, "1\n"})
	set := func(size int) string { return "[" + long(size-2) + "]" }
	checkRan(t, ran{"BEGIN { print 1; print (\"x\" ~ \"" + set(200) + "\"); 1 ~ \"" + set(201) + "\"; }", "", impl.RnRe, "1\n1\n"})
	checkRan(t, ran{"BEGIN { print (\"x\" ~ /" + set(200) + "/); 1 ~ /" + set(201) + "/; }", "", impl.RnConst, "1\n"})
}

func TestRunSplit(t *testing.T) {
	checkAllRan(t, []ran{
		{`BEGIN { print split("a b  c", A), A[1] A[2] A[3], (4 in A), (0 in A); print split("a:b::c:", A, ":"), A[1] "," A[2] "," A[3] "," A[4] "," A[5] "|"; print split("abc", A, ""), A[1], (2 in A); print split("", A), (1 in A); print split("", A, "x"), (1 in A); }`, "", impl.RnEnd, "3 abc 0 0\n5 a,b,,c,|\n1 abc 0\n0 0\n0 0\n"},
		{`BEGIN { A[1] = 5; A["x"] = 6; A[3] = 7; n = split("p q", A); for (k in A) print k, A[k]; print n; split("  ", A); for (k in A) print k; print split(" ", A, ":"), A[1] "|"; }`, "", impl.RnEnd, "1 p\n2 q\n2\n1  |\n"},
		{`{ n = split($0, A, ","); for (i = 1; i <= n; i += 1) print A[i] "|" (A[i] == 2) (A[i] == "2") (!A[i]); }`, "02, 2 ,x,,0", impl.RnEnd, "02|100\n 2 |100\nx|000\n|001\n0|001\n"},
		{`BEGIN { print split("a b", x), x[2]; split(x[1], x); print x[1], (2 in x); split(12.5, x, "."); print x[1] + x[2]; split("a1b", x, 1); print x[2]; split("a b", x, u); print x[1]; }`, "", impl.RnEnd, "2 b\na 0\n17\nb\na b\n"},
		{`BEGIN { f(A); print A[1]; split("p q", B); f(B); print B[1] (2 in B); } function f(a) { split("z", a); }`, "", impl.RnEnd, "z\nz0\n"},
		{`{ print split($0, A, "x"), (50 in A), (51 in A); print split(B, A), (1 in A); }`, strings.Repeat("yx", 60), impl.RnEnd, "50 1 0\n0 0\n"},
		{`BEGIN { x = 1; print 1; split("a", x); }`, "", impl.RnArray, "1\n"},
		{`BEGIN { print 1; split("a", NR); }`, "", impl.RnArray, "1\n"},
		{`BEGIN { print 1; split("a", NF, "b"); }`, "", impl.RnArray, "1\n"},
		{`BEGIN { print 1; split("a", A, A); }`, "", impl.RnEnd, "1\n"},
		{`BEGIN { print 1; A[1]; split("a", A, A); }`, "", impl.RnSingle, "1\n"},
		{`BEGIN { for (i = 1; i <= 60; i += 1) A[i]; print split("` + strings.Repeat("a ", 55) + `", A), (50 in A), (51 in A); }`, "", impl.RnEnd, "50 1 0\n"},
	})
}

func TestRunCalls(t *testing.T) {
	nothing := " function f(a) { print 5; return a; } function g() { } function two(a, b) { print a \"|\" b \"|\"; }"
	for _, statement := range []string{"no();", "no(1);", "no(f(1));", "g(1);", "f(1, 2);", "f(f(1), f(2));", "two(1, 2, 3);", "g(x);", "x = 1 + no();", "f(no());", "NR(1);"} {
		checkRan(t, ran{"BEGIN { print 1; " + statement + " print 2; }" + nothing, "", impl.RnArgs, "1\n"})
	}
	checkAllRan(t, []ran{
		{`BEGIN { two(1, 2); two(1); two(); two(x, x); two(two(3, 4), 5); print g() "|" f() "|" f(7); }` + nothing, "", impl.RnEnd, "1|2|\n1||\n||\n||\n3|4|\n|5|\n5\n5\n||7\n"},
		{`BEGIN { print fac(8), fib(9); } function fac(n) { return n < 2 ? 1 : n * fac(n - 1); } function fib(n) { if (n < 2) return n; return fib(n - 1) + fib(n - 2); }`, "", impl.RnEnd, "40320 34\n"},
		{`BEGIN { print even(8) even(7); } function even(n) { if (n == 0) return "yes"; return odd(n - 1); } function odd(n) { if (n == 0) return "no"; return even(n - 1); }`, "", impl.RnEnd, "yesno\n"},
		// Arguments are evaluated from left to right, in the caller.
		{`BEGIN { x = 1; two(x = 2, x += 3); two(x, x = 9); two(two(1, 2), two(3, 4)); } ` + nothing, "", impl.RnEnd, "2|5|\n5|9|\n1|2|\n3|4|\n||\n"},
		{`BEGIN { a = 7; h(1); } function h(b) { two(a, b); f2(a, b + 1); } function f2(b, a) { two(b, a); }` + nothing, "", impl.RnEnd, "7|1|\n7|2|\n"},
		{`BEGIN { out(3); } function out(n) { if (n) { m = n; out(n - 1); print n, m; } }`, "", impl.RnEnd, "1 1\n2 1\n3 1\n"},
		{`BEGIN { print out(3); } function out(n, m) { m = n; if (n) out(n - 1); return n m; }`, "", impl.RnEnd, "33\n"},
		// Scalars are passed by value, with their kind.
		{`{ x = $1; h(x, $1, "02", 2, $9, u); print x; } function h(a, b, c, d, e, u) { print (a == 2) (a == "2") (b == 2) (b == "2") (c == 2) (d == 2) (d == "2") (e == 0) (e == "") (u == 0) (u == ""); a = 5; b = 6; }`, "02", impl.RnEnd, "10100111111\n02\n"},
		{`{ h($1); print; $0 = "z"; } function h(a) { $1 = a a; a = 1; print a; }`, "p q", impl.RnEnd, "1\npp q\n"},
		{`BEGIN { A[1] = 5; h(A[1], A[2]); print A[1], (2 in A); } function h(a, b) { a += 1; b = 3; print a b; }`, "", impl.RnEnd, "63\n5 1\n"},
		// Arrays are passed by reference.
		{`BEGIN { A[1] = 5; A[2] = 6; h(A, 1); print A[1], (2 in A), A[3]; } function h(a, b) { print a[b], (2 in a); a[b] = 7; delete a[2]; a[3] = "new"; A[1] += 1; print a[1]; }`, "", impl.RnEnd, "5 1\n8\n8 0 new\n"},
		{`BEGIN { A[1] = 5; h(A, A); print A[1] A[2]; } function h(a, b) { a[1] += 1; b[2] = b[1]; print a[2]; i(b); } function i(a) { a[1] = "z"; }`, "", impl.RnEnd, "6\nz6\n"},
		{`BEGIN { A[1] = 5; print h(A) h(A); for (k in A) print k; } function h(a) { n += 1; a[n "x"]; for (k in a) s = s k; return s; }`, "", impl.RnEnd, "11x11x11x2x\n1\n1x\n2x\n"},
	})
}

// Twenty bodies may be active, whatever arguments are evaluated.
func TestRunDepthOfCalls(t *testing.T) {
	down := ` function f(n) { if (n == 0) return "ok"; return f(n - 1); } function id(a) { return a; } function g(n, m) { print n; if (1 < n) g(n - 1, 1); }`
	checkAllRan(t, []ran{
		{`BEGIN { print f(19); }` + down, "", impl.RnEnd, "ok\n"},
		{`BEGIN { print 1; print f(20); }` + down, "", impl.RnDeep, "1\n"},
		{`{ print f(19), f(19); } END { print id(f(19)), f(19); }` + down, "a\nb", impl.RnEnd, "ok ok\nok ok\nok ok\n"},
		{`BEGIN { print id(f(19)); print id(id(id(f(19)))); print f(id(19)); }` + down, "", impl.RnEnd, "ok\nok\nok\n"},
		{`BEGIN { print h(18), h(19); } function h(n) { if (n == 0) return f(0); return h(n - 1); }` + down, "", impl.RnDeep, ""},
		{`BEGIN { print h(18); print id(h(18)); } function h(n) { if (n == 0) return f(0); return h(n - 1); }` + down, "", impl.RnEnd, "ok\nok\n"},
		// The depth is looked at before the arguments are evaluated, but behind their number.
		{`BEGIN { d(1); } function d(n) { print n; d(n + 1); }`, "", impl.RnDeep, "1\n2\n3\n4\n5\n6\n7\n8\n9\n10\n11\n12\n13\n14\n15\n16\n17\n18\n19\n20\n"},
		{`BEGIN { d(1); } function d(n) { if (n == 20) d(p()); d(n + 1); } function p() { print "no"; }`, "", impl.RnDeep, ""},
		{`BEGIN { d(1); } function d(n) { if (n == 20) { print 1; d(q = 5, 2); } d(n + 1); } END { print q; }`, "", impl.RnArgs, "1\n"},
		{`BEGIN { d(1); } function d(n) { if (n == 20) { print 1; no(q = 5); } d(n + 1); }`, "", impl.RnArgs, "1\n"},
		{`BEGIN { d(1); } function d(n) { if (n == 20) { print 1; x = id(q = 5) + 7; print 2; } d(n + 1); }` + down, "", impl.RnDeep, "1\n"},
		{`BEGIN { r(); } function r() { r(); }`, "", impl.RnDeep, ""},
	})
	r := impl.Run(parsed(t, `BEGIN { d(1); } function d(n) { if (n == 20) d(q = 5); d(n + 1); }`), "", impl.MaxFuel)
	if r.Code != impl.RnDeep || marksText(r.Marks) != "d.n=2" {
		t.Error(resultText(r))
	}
}

// A name that is unset when it is passed.
func TestRunUnsetArguments(t *testing.T) {
	functions := ` function set(a) { a = 5; } function put(b) { b[1] = 6; } function has(a) { return 1 in a; } function value(a) { return "<" a ">"; } function pass(a) { put(a); } function far(c) { pass(c); }
function both(a, b) { a[1] = 2; b[1] += 3; print a[1]; } function mixed(a, b) { a = 4; b[1] = 5; print a, b[1]; } function mixed2(a, b) { b[1] = 5; print a; }`
	for _, x := range []struct {
		statements, out string
		code            int
	}{
		{`set(x); print x "|"; x[1] = 2; print x[1];`, "|\n2\n", impl.RnEnd},
		{`print value(x); x[1] = 2; print x[1];`, "<>\n2\n", impl.RnEnd},
		{`set(x); x = 2; print x;`, "2\n", impl.RnEnd},
		{`put(x); print x[1], has(x); x = 1;`, "6 1\n", impl.RnSingle},
		{`has(x); x = 1;`, "", impl.RnSingle},
		{`print has(x) has(x); x[1]; print has(x);`, "00\n1\n", impl.RnEnd},
		{`pass(x); print x[1];`, "6\n", impl.RnEnd},
		{`far(x); print x[1]; print 1 in x;`, "6\n1\n", impl.RnEnd},
		{`put(x); put(x); set(x); print x[1] value(x);`, "", impl.RnSingle},
		{`both(x, x); print x[1];`, "5\n5\n", impl.RnEnd},
		{`both(x, y); print x[1], y[1];`, "2\n2 3\n", impl.RnEnd},
		{`mixed(x, x); print x[1];`, "4 5\n5\n", impl.RnEnd},
		{`mixed2(x, x);`, "", impl.RnSingle},
		{`mixed2(x, y); print y[1] x "|";`, "\n5|\n", impl.RnEnd},
		{`both(x, x); both(x, x); mixed(x, x);`, "5\n5\n", impl.RnSingle},
		{`x = y; put(x);`, "", impl.RnArray},
		{`set(x = y); put(x);`, "", impl.RnArray},
		{`put($9);`, "", impl.RnArray},
		{`put(A[1]);`, "", impl.RnArray},
		{`put(1);`, "", impl.RnArray},
		{`put("");`, "", impl.RnArray},
		{`put(value(x)); `, "", impl.RnArray},
		{`put(none());`, "", impl.RnArray},
		{`put(NR);`, "", impl.RnArray},
		{`put(x + 1);`, "", impl.RnArray},
		{`put(); print "ok";`, "ok\n", impl.RnEnd},
		{`pass(); far(); print "ok";`, "ok\n", impl.RnEnd},
	} {
		checkRan(t, ran{"BEGIN { " + x.statements + " }" + functions + " function none() { }", "", x.code, x.out})
		// A parameter is as good as a global variable.
		checkRan(t, ran{"BEGIN { main(); main(); } function main(x, y) { n += 1; if (1 < n) return; " + x.statements + " }" + functions + " function none() { }", "", x.code, x.out})
	}
}

// A name that was unset when it was passed and is used meanwhile.
func TestRunArgumentsUsedMeanwhile(t *testing.T) {
	for _, x := range []struct {
		body, out string
		code      int
	}{
		{`x = 1; print a "|", (a == 0); a = 2; print a, x;`, "| 1\n2 1\nend\n", impl.RnEnd},
		{`x = 1; print 1; a[1];`, "1\n", impl.RnArray}, {`x = 1; print 1; 1 in a;`, "1\n", impl.RnArray}, {`x += 1; split("p", a);`, "", impl.RnArray}, {`x = y; for (k in a) 1;`, "", impl.RnArray}, {`x = 1; delete a[1];`, "", impl.RnArray},
		{`x[1] = 5; print a[1]; a[2] = 6; print x[2];`, "5\n6\nend\n", impl.RnEnd},
		{`x[1] = 5; print 1; print a;`, "1\n", impl.RnSingle}, {`1 in x; a = 2;`, "", impl.RnSingle}, {`x[1]; a += 2;`, "", impl.RnSingle}, {`split("p", x); if (a) 1;`, "", impl.RnSingle}, {`x[1]; B[1]; for (a in B) 1;`, "", impl.RnSingle}, {`for (k in x) 1; length(a);`, "", impl.RnSingle},
		{`a = 3; x[1] = 5; print a, x[1]; a[1];`, "3 5\n", impl.RnArray}, {`a = 3; x = 4; print a, x;`, "3 4\nend\n", impl.RnEnd}, {`a = y; x[1]; print a "|";`, "|\nend\n", impl.RnEnd},
		{`a[1] = 3; x[2] = 4; print a[2], x[1];`, "4 3\nend\n", impl.RnEnd}, {`a[1] = 3; print 1; x = 4;`, "1\n", impl.RnSingle}, {`a[1] = 3; print x;`, "", impl.RnSingle},
		{`print a "|"; a[1] = 3; print x[1];`, "|\n3\nend\n", impl.RnEnd}, {`print a "|"; x[1] = 3; print a[1];`, "|\n3\nend\n", impl.RnEnd}, {`x; a[1] = 3; print x[1];`, "3\nend\n", impl.RnEnd},
		// What is passed on is unset, an array or a scalar, as it is at that time.
		{`x[1] = 5; g(a); print a[2], x[2];`, "g5\n7 7\nend\n", impl.RnEnd}, {`x = 5; h(a); a = 2; h(a);`, "h|\nh2|\nend\n", impl.RnEnd}, {`x = 5; h(a); g(a);`, "h|\n", impl.RnArray}, {`x[1] = 5; h(a);`, "", impl.RnSingle},
		{`i(a);`, "i|\n8\nend\n", impl.RnEnd}, {`k(a);`, "k|\n", impl.RnArray}, {`l(a);`, "", impl.RnSingle}, {`m(a, a[1] = 4);`, "m4\nend\n", impl.RnEnd}, {`m(a, x[1] = 4);`, "m4\nend\n", impl.RnEnd}, {`m(a, a = 4);`, "", impl.RnArray}, {`m(a, x = 4);`, "", impl.RnArray},
		{`h(a, x = 4); h(a, a = 4); h(a, a = 5);`, "h|\nh|\nh4|\nend\n", impl.RnEnd}, {`h(a, x[1] = 4);`, "", impl.RnSingle},
		{`o(a, a);`, "o9\nend\n", impl.RnEnd}, {`o(a, x); print a[1] x[1];`, "o9\n99\nend\n", impl.RnEnd}, {`o(x, a); print a[1] x[1];`, "o9\n99\nend\n", impl.RnEnd},
	} {
		functions := ` function g(b) { print "g" b[1]; b[2] = 7; } function h(b, c) { print "h" b "|"; } function i(b) { print "i" b "|"; x[1] = 8; print b[1]; } function k(b) { x = 1; print "k" b "|"; b[1]; }
function l(b) { x[1]; b; } function m(b, c) { print "m" b[1]; } function o(b, c) { c[1] = 9; print "o" b[1]; }`
		checkRan(t, ran{"BEGIN { f(x); print \"end\"; } function f(a) { " + x.body + " }" + functions, "", x.code, x.out})
		// The same in the middle of several calls.
		checkRan(t, ran{"BEGIN { f3(x); print \"end\"; } function f3(c) { f2(c); } function f2(x2) { f(x2); } function f(a) { " + x.body + " }" + functions, "", x.code, x.out})
	}
	// A parameter in the middle that has become a scalar meanwhile.
	checkAllRan(t, []ran{
		{`BEGIN { f(x); } function f(a) { g(a, a = 1); } function g(b, c) { print b "|"; b[1]; }`, "", impl.RnArray, "|\n"},
		{`BEGIN { f(x); print x[1]; } function f(a) { g(a, a[1] = 1); } function g(b, c) { print b[1]; b[1] = 2; }`, "", impl.RnEnd, "1\n2\n"},
		{`BEGIN { f(x); x[1] = 1; print x[1]; } function f(a) { a = 1; g(a); } function g(b) { print b; b = 2; }`, "", impl.RnEnd, "1\n1\n"},
		{`BEGIN { f(x); print x "|"; } function f(a) { g(a); a = 3; print a; } function g(b) { b = 4; print b; }`, "", impl.RnEnd, "4\n3\n|\n"},
		{`BEGIN { f(x, 3); print x[1]; } function f(a, n) { if (n) f(a, n - 1); else a[1] = "deep"; }`, "", impl.RnEnd, "deep\n"},
		{`BEGIN { f(x, 18); print x[1]; } function f(a, n) { if (n) f(a, n - 1); else x[1] = "deep"; if (n == 18) print a[1]; }`, "", impl.RnEnd, "deep\ndeep\n"},
	})
}

// Short programs that pass names on, each way of use after each other.
func TestRunOfPassedNames(t *testing.T) {
	t.Parallel()
	uses := []string{"", "%;", "% = 1;", "%[1];", "1 in %;"}
	codes := map[int]int{}
	for seed := range 3000 {
		dice := treeMaker(seed)
		use := func(names ...string) string {
			s := ""
			for range dice.below(2) {
				s += strings.ReplaceAll(uses[dice.below(len(uses))], "%", names[dice.below(len(names))]) + " "
			}
			return s
		}
		of := func(names ...string) string { return names[dice.below(len(names))] }
		src := "BEGIN { " + use("x", "y") + "f(" + of("x", "y") + ", " + of("x", "y", "x[1]", "x = 2", "y") + "); print x \"|\"; } function f(a, b) { " + use("a", "b", "x", "y") + "g(" + of("a", "b", "x") + ", " + of("a", "b", "y", "a[1]") + "); " + use("a", "b", "x") + "print a; } function g(c, d) { " +
			use("c", "d", "x", "y") + "if (n += 1 < 3) " + of("f(c, d);", "g(d, c);", "f(d, y);", "1;") + " " + use("c", "d", "x") + " print d, c; }"
		src = strings.Replace(src, "n += 1 < 3", "(n += 1) < 3", 1)
		codes[checkEachFuel(t, src, "", 200).code]++
	}
	for _, code := range []int{impl.RnEnd, impl.RnSingle, impl.RnArray} {
		if codes[code] < 400 {
			t.Error(codes)
		}
	}
}

// Tags are 1 for an unset value, 2 for a number, 4 for a string and 8 for both.
func TestRunMarks(t *testing.T) {
	for _, x := range []struct{ src, input, want string }{
		{`BEGIN { x = 1; y = x "a"; A[1] = y; z = f(2); } function f(p, q) { return q; }`, "", "A[]=4 x=2 y=4 z=1 f()=1 f.p=2 f.q=1"},
		{"", "a", ""}, {"BEGIN { 1; \"s\"; /r/; $1; NR; }", "", ""}, {"function f(a, b) { x = a; }", "", ""},
		// Names that are read.
		{"BEGIN { x; }", "", "x=1"}, {"BEGIN { if (x) y; }", "", "x=1"}, {"BEGIN { if (0) x = 1; 0 && y; 1 || z; 1 ? 2 : w; }", "", ""}, {"BEGIN { x = 1; x; x = \"s\"; }", "", "x=6"}, {"{ x = $1; y = x; }", "1 a", "x=8 y=8"}, {"{ x = $1; x = $2; x = $3; x = 1; }", "1 a", "x=15"}, {"BEGIN { print length(x), -x2, (x3 ~ /a/); }", "", "x=1 x2=1 x3=1"},
		// Names that are set.
		{"BEGIN { x = 1; }", "", "x=2"}, {"BEGIN { x = \"1\"; }", "", "x=4"}, {"BEGIN { x = $1; }", "", "x=1"}, {"BEGIN { x = y = z; }", "", "x=1 y=1 z=1"}, {"BEGIN { x += 1; }", "", "x=3"}, {"BEGIN { x = \"s\"; x += 1; }", "", "x=6"}, {"{ x = $1; x += 1; }", "5", "x=10"}, {"BEGIN { A[1]; for (k in A) { } }", "", "A[]=1 k=4"}, {"BEGIN { for (k in A) { } }", "", ""},
		{"BEGIN { x = 1 2; y = toupper(\"a\"); z = substr(\"a\", 1); a = length(\"b\"); b = int(\"1\"); c = (1 < 2); d = (1 in A); e = split(\"\", A); }", "", "a=2 b=2 c=2 d=2 e=2 x=4 y=4 z=4"}, {"{ x = $0; y = ($1 = 5); z = $1; w = $9; v = NF; u = NR; }", "a", "u=2 v=2 w=1 x=4 y=2 z=8"}, {"BEGIN { x = (1 ? $1 : 2); y = (0 ? 1 : \"s\"); }", "", "x=1 y=4"},
		// Elements.
		{"BEGIN { A[1]; }", "", "A[]=1"}, {"BEGIN { A[1] = 5; A[2] = \"s\"; }", "", "A[]=6"}, {"BEGIN { A[1] += 5; }", "", "A[]=3"}, {"BEGIN { A[1] = \"s\"; A[1] += 5; }", "", "A[]=6"}, {"BEGIN { 1 in A; delete A[1]; for (k in A) { } }", "", ""}, {"{ A[1] = $1; }", "5", "A[]=8"}, {"{ A[1] = $1; x = A[1]; }", "s", "A[]=4 x=4"},
		{"{ split($0, A); }", "5 s", "A[]=12"}, {"{ split($0, A); }", "5 7", "A[]=8"}, {"{ split($0, A, \":\"); }", "a:b", "A[]=4"}, {"BEGIN { split(\"\", A); }", "", ""}, {"BEGIN { A[1] = 1; split(\"5\", A); A[2]; }", "", "A[]=11"}, {"BEGIN { A[B[1]] = C[2]; }", "", "A[]=1 B[]=1 C[]=1"}, {"BEGIN { A[x] = y; }", "", "A[]=1 x=1 y=1"}, {"BEGIN { A[x = 5]; }", "", "A[]=1 x=2"},
		// Calls.
		{"BEGIN { f(); } function f(a) { }", "", "f()=1"}, {"BEGIN { f(1); } function f(a) { return; }", "", "f()=1 f.a=2"}, {"BEGIN { f(\"s\"); } function f(a) { return a; }", "", "f()=4 f.a=4"}, {"{ f($1); f($2); } function f(a) { return 1; }", "5 s", "f()=2 f.a=12"}, {"BEGIN { f(NR); f(NF); } function f(a) { }", "", "f()=1 f.a=2"}, {"{ x = f($1) f($2) f($3); } function f(a) { if (a) return a; }", "5 s", "x=4 f()=13 f.a=13"},
		{"BEGIN { f(x); } function f(a) { }", "", "f()=1"}, {"BEGIN { x = 1; f(x); x = \"s\"; } function f(a) { }", "", "x=6 f()=1 f.a=2"}, {"BEGIN { f(x); } function f(a) { a; }", "", "f()=1 f.a=1"}, {"BEGIN { f(x); } function f(a) { a = 1; }", "", "f()=1 f.a=2"}, {"BEGIN { f(x); } function f(a) { a[1] = 1; }", "", "f()=1 f.a[]=2"}, {"BEGIN { A[1]; f(A); } function f(a) { }", "", "A[]=1 f()=1"},
		{"BEGIN { A[1]; f(A); A[1] = 2; } function f(a) { a[2] = \"s\"; }", "", "A[]=3 f()=1 f.a[]=4"}, {"BEGIN { f($1); } function f(a) { }", "", "f()=1 f.a=1"}, {"BEGIN { x = $1; f(x); } function f(a) { }", "", "x=1 f()=1 f.a=1"}, {"BEGIN { f(1, \"s\"); } function f(a, a) { }", "", "f()=1 f.a=2"}, {"BEGIN { f(x, \"s\"); } function f(a, a) { }", "", "f()=1"}, {"BEGIN { f(1); } function f(a) { x = a; } function f(x) { }", "", "f()=1 f.a=2 f.x=2"},
		{"BEGIN { f(1); } function f(a) { g(a \"\"); a; } function g(b) { return NR; }", "", "f()=1 f.a=2 g()=2 g.b=4"}, {"BEGIN { f(f(f(1))); } function f(a) { if (a == 1) return \"s\"; return $1; }", "", "f()=5 f.a=7"}, {"BEGIN { break; f(1); } BEGIN { f(2); } function f(a) { continue; }", "", "f()=1 f.a=2"},
		// What does not return has no result.
		{"BEGIN { f(1); } function f(a) { next; }", "", "f.a=2"}, {"BEGIN { f(1); } function f(a) { exit 1; }", "", "f.a=2"}, {"BEGIN { f(1); } function f(a) { return 1 / 0; }", "", "f.a=2"}, {"BEGIN { f(g()); } function f(a) { } function g() { next; }", "", ""},
		// NR and NF have no marks, but parameters with these names have.
		{"{ NR; NF; x = NR; print NF; $NF; }", "a", "x=2"}, {"BEGIN { f(1); } function f(NR, NF) { NF; NF = NR \"\"; }", "", "f()=1 f.NF=5 f.NR=2"}, {"BEGIN { f(x); } function f(NR) { NR[1]; }", "", "f()=1 f.NR[]=1"}, {"BEGIN { f(1); NF(2); } function f(a) { x = NR; } function NF(NR) { NR; }", "", "x=2 NF()=1 NF.NR=2 f()=1 f.a=2"},
		// The order: functions, then names, then kinds.
		{"BEGIN { b = 1; a = 1; B[1]; A[1]; zz(1, 2); f(C, 1); aa = 1; } function zz(q, p) { z = 1; } function f(y, x) { y[1] = x; return 1; } function Z() { }", "", "A[]=1 B[]=1 a=2 aa=2 b=2 z=2 f()=2 f.x=2 f.y[]=2 zz()=1 zz.p=2 zz.q=2"},
		{"BEGIN { x; x[1]; f(y); } function f(a) { a; a[1]; }", "", "x=1 x[]=1 f()=1 f.a=1 f.a[]=1"}, {"BEGIN { _ = 1; X1 = 1; x9 = 1; x10 = 1; x = 1; F(2); f(3); } function f(x) { } function F(x) { }", "", "X1=2 _=2 x=2 x10=2 x9=2 F()=1 F.x=2 f()=1 f.x=2"},
		// Up to the condition that ends the run.
		{"BEGIN { x = 1; y = 1 / 0; z = 1; }", "", "x=2"}, {"BEGIN { x = 1; x[1] = 2; }", "", "x=2"}, {"BEGIN { x[1] = 2; x = 1; }", "", "x[]=2"}, {"BEGIN { x[1]; x += y; }", "", "x[]=1"}, {"BEGIN { x = y += 9000000 + z; x = y += 1; }", "", "x=2 y=3 z=1"}, {"BEGIN { NR = x; y = 1; }", "", "x=1"}, {"BEGIN { f(1, 2 / 0); } function f(a, b) { }", "", "f.a=2"}, {"BEGIN { f(x = 1, y = 2 / 0); } function f(a, b) { }", "", "x=2 f.a=2"},
		{"BEGIN { for (i = 1; i < 70; i += 1) A[i] = \"s\"; }", "", "A[]=4 i=2"}, {"BEGIN { for (i = 1; i < 61; i += 1) A[i] = \"s\"; A[0]; }", "", "A[]=4 i=2"}, {"BEGIN { for (i = 1; i < 61; i += 1) A[i] = \"s\"; A[0] = 7; }", "", "A[]=4 i=2"}, {"BEGIN { print x, no(y), z; }", "", "x=1"}, {"BEGIN { f(x); } function f(a) { x[1]; a; }", "", "x[]=1"}, {"BEGIN { f(x); } function f(a) { x = 1; a[1]; }", "", "x=2"},
	} {
		p := parsed(t, x.src)
		if r := impl.Run(p, x.input, impl.MaxFuel); marksText(r.Marks) != x.want {
			t.Errorf("%s with the input %q has the marks %s; want %s", x.src, x.input, marksText(r.Marks), x.want)
		}
		checkEachFuel(t, x.src, x.input, 200)
	}
}

// Every condition, with what was done before.
func TestRunConditions(t *testing.T) {
	for _, x := range []struct {
		statement, marks string
		code             int
	}{
		{"exit 3;", "", impl.RnEnd}, {"while (1) { }", "", impl.RnFuel}, {"for (1; 1; 1) { }", "", impl.RnFuel}, {"b = 9000000 + 1;", "", impl.RnOver}, {"b = 1 / a % 0;", "a=1", impl.RnDivide}, {"b = (1 ~ \"(\");", "", impl.RnRe}, {"b = $51;", "", impl.RnLong}, {"b = d();", "", impl.RnDeep}, {"A = 1;", "", impl.RnSingle}, {"x[1];", "", impl.RnArray}, {"b = no(a);", "", impl.RnArgs},
		{"printf \"%d\";", "", impl.RnFormat}, {"b = /*/;", "", impl.RnConst}, {"NR = a;", "a=1", impl.RnSet},
	} {
		src := "BEGIN { x = 5; A[1] = \"s\"; print x; f(\"t\"); print 9; } function f(p) { print p; if (1) { " + x.statement + " } print 8; } function d() { return d(); } END { print 7; }"
		r := checkRan(t, ran{src, "", x.code, "5\nt\n"})
		want := strings.TrimSpace("A[]=4 " + x.marks)
		if got := marksText(r.Marks); got != want+" x=2 f.p=4" {
			t.Errorf("%s has the marks %s; want %s", src, got, want)
		}
		if (r.Status == 3) != (x.code == impl.RnEnd) || x.code == impl.RnFuel && r.Left != 0 || x.code != impl.RnFuel && r.Left < 19000 {
			t.Errorf("%s gives %s", src, resultText(r))
		}
	}
}

// Whatever ends a body does so in each place where an expression can stand, at
// once: nothing else is evaluated or done.
func TestRunEndsInEachPlace(t *testing.T) {
	for _, places := range []string{
		"@;", "print @, @, @;", "printf @, @, @;", "if (@) print 1;", "if (@) print 1; else print 2;", "while (@) { @; print 1; }", "for (@; @; @) { }", "for (@; @; @) { @; }", "for (k in B) { @; print 1; }", "exit @;", "return @;", "delete A[@];", "{ @; { @; } @; }",
		"$@;", "A[@];", "@ in A;", "x = @;", "x += @;", "$@ = @;", "$@ += @;", "A[@] = @;", "A[@] += @;", "@ ? @ : 2;", "!@ ? 3 : @;", "!@ || @;", "@ && @;", "!@;", "-@;", "@ ~ @;", "@ !~ @;", "@ ~ /a/;", "@ < @;", "@ <= @;", "@ == @;", "@ != @;", "@ (@);",
		"@ + @;", "@ - @;", "@ * @;", "@ / @;", "@ % @;", "length(@);", "substr(@, @);", "substr(@, @, @);", "index(@, @);", "split(@, A);", "split(@, A, @);", "toupper(@);", "int(@);", "g(@);", "g(@, x, @, A);", "x = A[$@ + @] @;", "g(g(g(@, @)), @);",
	} {
		parts := strings.Split(places, "@")
		for at := 1; at < len(parts); at++ {
			statement := strings.Join(parts[:at], "ok()") + "stop()" + strings.Join(parts[at:], "ok()")
			for how, want := range []struct {
				code, status int
				out          string
			}{{impl.RnDivide, 0, "stop"}, {impl.RnEnd, 4, "stop"}, {impl.RnEnd, 0, "stopend"}} {
				src := "BEGIN { how = " + strconv.Itoa(how) + "; B[1]; f(); print 7; } END { printf \"end\"; } function f() { " + statement + " print 8; } function ok() { return 1; } function stop() { printf \"stop\"; if (how == 0) 1 / 0; if (how == 1) exit 4; next; } function g(a, b, c, d) { }"
				if r := checkRan(t, ran{src, "", want.code, want.out}); r.Status != want.status {
					t.Errorf("%s has the status %d", src, r.Status)
				}
			}
		}
	}
}

// Promise 10, by what Run returns alone: with more fuel a run does the same and
// continues, one node at a time, and what begins is inside something that has begun.

// within returns the nodes in which node k is evaluated or executed.
func within(p impl.Prog, k int) []int {
	var around []int
	for i, n := range p.L {
		if slices.Contains(n.Kids, k) {
			around = append(around, i)
			// A target does not begin, but what it is the target of.
			if target := slices.IndexFunc(p.L, func(n impl.Node) bool { return len(n.Kids) > 0 && n.Kids[0] == i }); target >= 0 && (p.L[target].Kind == impl.NkSet || p.L[target].Kind == impl.NkSetAdd) {
				around = append(around, target)
			}
		}
	}
	for _, item := range p.Items {
		if item.Body == k && item.When == impl.WnFunc {
			for i, n := range p.L {
				if n.Kind == impl.NkCall && n.S == item.Name {
					around = append(around, i)
				}
			}
		}
		if item.Body == k && item.When == impl.WnExpr {
			around = append(around, item.Cond)
		}
	}
	return around
}

// isTop reports whether node k is where an item begins.
func isTop(p impl.Prog, k int) bool {
	return slices.ContainsFunc(p.Items, func(item impl.Item) bool {
		return item.When == impl.WnExpr && item.Cond == k || item.When != impl.WnExpr && item.When != impl.WnFunc && item.Body == k
	})
}

func checkInside(t *testing.T, p impl.Prog, before, hit []bool) {
	t.Helper()
	news := 0
	for k := range hit {
		if before[k] && !hit[k] {
			t.Fatalf("%s: node %d has begun, and then has not", impl.ProgText(p), k)
		}
		if hit[k] && !before[k] {
			news++
			if !isTop(p, k) && !slices.ContainsFunc(within(p, k), func(i int) bool { return before[i] }) {
				t.Fatalf("%s: node %d begins inside nothing that has begun", impl.ProgText(p), k)
			}
		}
	}
	if news > 1 {
		t.Fatalf("%s: %d nodes begin with one unit of fuel", impl.ProgText(p), news)
	}
}

func checkContinues(t *testing.T, src string, a, b impl.Result) {
	t.Helper()
	for _, mark := range a.Marks {
		if !slices.ContainsFunc(b.Marks, func(m impl.Mark) bool {
			return m.Fn == mark.Fn && m.S == mark.S && m.Kind == mark.Kind && m.Tags&mark.Tags == mark.Tags
		}) {
			t.Fatalf("%s: with more fuel there is no mark %s", src, markText(mark))
		}
	}
	if !strings.HasPrefix(b.Out, a.Out) || a.Code != impl.RnFuel || a.Left != 0 || a.Status != 0 {
		t.Fatalf("%s: %s is followed by %s", src, resultText(a), resultText(b))
	}
}

func TestRunWithMoreFuelContinues(t *testing.T) {
	t.Parallel()
	ends, out := 0, 0
	for seed := range 300 {
		w := runs{wilds: wilds{dice: treeMaker(100000 + seed)}}
		src, input := progText(w.rules()), w.input()
		p, at := impl.Parse(src)
		if at != -1 {
			continue
		}
		last := impl.Run(p, input, 0)
		for fuel := 1; last.Code == impl.RnFuel && fuel < 150; fuel++ {
			r := impl.Run(p, input, fuel)
			checkContinues(t, src, last, r)
			checkInside(t, p, last.Hit, r.Hit)
			last = r
		}
		if last.Code == impl.RnFuel {
			continue
		}
		// With still more fuel nothing but what is left changes.
		ends++
		out += len(last.Out)
		for more := 1; more < 5; more++ {
			r := impl.Run(p, input, more*1000)
			r.Left = last.Left
			if !equalResults(r, last) {
				t.Fatalf("%s: more fuel gives %s; want %s", src, resultText(r), resultText(last))
			}
		}
	}
	if ends < 150 || out < 500 {
		t.Error(ends, out)
	}
}

func TestRunLeavesArgumentsUnchanged(t *testing.T) {
	t.Parallel()
	for seed := range 500 {
		w := runs{wilds: wilds{dice: treeMaker(200000 + seed)}}
		p, at := impl.Parse(progText(w.rules()))
		if at != -1 {
			continue
		}
		input := w.input()
		q, same := spoiled(p)
		r := impl.Run(q, input, 500)
		if !same() {
			t.Fatalf("%s is changed", impl.ProgText(p))
		}
		again := impl.Run(p, strings.Clone(input), 500)
		if !equalResults(r, again) {
			t.Fatalf("%s is run anew as %s; want %s", impl.ProgText(p), resultText(again), resultText(r))
		}
		// Nothing is kept from run to run, and no result is memory of another.
		clear(r.Hit)
		clear(r.Marks)
		if third := impl.Run(p, input, 500); !equalResults(third, again) {
			t.Fatalf("%s is run anew as %s; want %s", impl.ProgText(p), resultText(third), resultText(again))
		}
	}
}

func TestRunResultsAreNew(t *testing.T) {
	for _, src := range []string{
		"{ print; }", "{ printf $0; }", "{ print $1; }", "BEGIN { printf \"constant\"; }", "BEGIN { print \"constant\"; }", "{ alpha = $0; beta[alpha] = alpha; printf \"%s\", gamma(alpha); } function gamma(delta) { return delta; }",
	} {
		p := parsed(t, src)
		input := "an-input-of-one-line"
		r := impl.Run(p, input, 100)
		var strs []string
		for _, n := range p.L {
			strs = append(strs, n.S, n.T)
		}
		for _, item := range p.Items {
			strs = append(append(strs, item.Name), item.Params...)
		}
		for _, s := range append(strs, input) {
			if sharesBytes(r.Out, s) {
				t.Errorf("%s: the output shares the bytes of %q", src, s)
			}
			for _, mark := range r.Marks {
				if sharesBytes(mark.Fn, s) || sharesBytes(mark.S, s) {
					t.Errorf("%s: the mark %s shares the bytes of %q", src, markText(mark), s)
				}
			}
		}
		for i, a := range r.Marks {
			for _, b := range r.Marks[:i] {
				if sharesBytes(a.Fn, b.Fn) || sharesBytes(a.S, b.S) {
					t.Errorf("%s: the marks %s and %s share bytes", src, markText(a), markText(b))
				}
			}
		}
	}
}

// Programs that use all of the fuel in the most tedious ways.
func TestRunOfTediousPrograms(t *testing.T) {
	t.Parallel()
	params := "p0"
	for i := range 400 {
		params += ", p" + strconv.Itoa(i)
	}
	alternatives := strings.Repeat("(a|b)*", 20)
	for name, src := range map[string]string{
		"a constant regular expression": "BEGIN { x = \"" + long(500) + "\"; while (1) x ~ /" + alternatives + "x*x*x*y/; }",
		"regular expressions":           "BEGIN { x = \"" + long(500) + "\"; y = \"" + alternatives + "(x*)*z\"; while (1) x ~ y; }",
		"many parameters":               "BEGIN { while (1) f(); } function f(" + params + ") { }",
		"many functions":                "BEGIN { while (1) last(); } " + strings.Repeat("function f() { } ", 220) + "function last() { }",
		"many items":                    strings.Repeat("{ } ", 300),
		"splitting":                     "BEGIN { x = \"" + strings.Repeat("a ", 250) + "\"; while (1) split(x, A); }",
		"fields":                        "BEGIN { $0 = \"" + strings.Repeat("a ", 249) + "\"; while (1) $50 = \"b\"; }",
		"records":                       "BEGIN { x = \"" + strings.Repeat("a ", 250) + "\"; while (1) $0 = x; }",
		"sorting":                       "BEGIN { while (i < 60) A[i += 1]; while (1) for (k in A) break; }",
		"concatenation":                 "BEGIN { x = \"" + long(250) + "\"; while (1) y = x x; }",
		"deep calls":                    "BEGIN { while (1) f(x, 19); } function f(a, n) { if (n) f(a, n - 1); else a; }",
		"names passed on":               "BEGIN { while (1) f(x, 19); } function f(a, n) { while (n == 0) a; if (n) f(a, n - 1); }",
	} {
		p := parsed(t, src)
		soon(t, name, func() {
			if r := impl.Run(p, strings.Repeat("\n", 3000), impl.MaxFuel); r.Code != impl.RnFuel || r.Left != 0 {
				t.Errorf("%s: gives %s", name, resultText(r))
			}
		})
	}
}
