package tests

import (
	"math"
	"slices"
	"strconv"
	"strings"
	"testing"

	"loop.example/g00700/impl"
)

// Sets of types are written as in the document: 1 for none, 2 for a number, 4 for
// a string and 8 for both, and sums of these.

// checkInferred checks the marks of a program, and compares all of its types with
// the model.
func checkInferred(t *testing.T, src, want string) {
	t.Helper()
	p := parsed(t, src)
	if got := marksText(checkTypes(t, p)); got != want {
		t.Errorf("%s: Kinds = %s; want %s", src, got, want)
	}
}

// checkAllInferred does so with a list of programs, each followed by its marks.
func checkAllInferred(t *testing.T, list ...string) {
	t.Helper()
	for i := 0; i < len(list); i += 2 {
		checkInferred(t, list[i], list[i+1])
	}
}

func TestKindsOfTheExample(t *testing.T) {
	src := "{ x = $1; y = x 1; A[1] = y; z = f(NR); } function f(a, b) { b += a; return b; }"
	checkInferred(t, src, "A[]=5 x=13 y=5 z=3 f()=3 f.a=3 f.b=3")
	want := []impl.Mark{{S: "A", Kind: 1, Tags: 5}, {S: "x", Tags: 13}, {S: "y", Tags: 5}, {S: "z", Tags: 3}, {Fn: "f", Kind: 2, Tags: 3}, {Fn: "f", S: "a", Tags: 3}, {Fn: "f", S: "b", Tags: 3}}
	if got := impl.Kinds(parsed(t, src)); !slices.Equal(got, want) {
		t.Error(got)
	}
}

// typed is an expression with certain types in the program of typedRules.
func typed(tags int) *tree {
	switch tags {
	case 0:
		return named(impl.NkCall, "no", "")
	case 1:
		return vari("v1")
	case 2:
		return num(1)
	case 4:
		return str("s")
	case 6:
		return of(impl.NkCond, num(0), num(1), str("s"))
	case 13:
		return of(impl.NkField, num(1))
	}
	return vari("v" + strconv.Itoa(tags))
}

var typedTags = []int{0, 1, 2, 3, 4, 5, 6, 7, 13, 15}

// typedRules gives types to the names of typed.
func typedRules(more ...rule) []rule {
	set := func(s string, x *tree) *tree { return do(of(impl.NkSet, vari(s), x)) }
	return append([]rule{always(set("v3", num(1)), set("v5", str("s")), set("v7", num(1)), set("v7", str("s")), set("v15", of(impl.NkField, num(1))), set("v15", num(1)))}, more...)
}

// checkTyped checks the types of an expression wherever it stands: by itself, as
// what is set, passed and returned, and as a condition.
func checkTyped(t *testing.T, x *tree, want int) {
	t.Helper()
	use := []*tree{do(x), do(of(impl.NkSet, vari("to"), x)), do(of(impl.NkSet, named(impl.NkElem, "To", "", num(1)), x)), do(named(impl.NkCall, "take", "", x)), of(impl.NkReturn, x)}
	p := progOf(typedRules(when(x, block()), function("take", []string{"given"}, block()), function("give", nil, block(use...)))...)
	marks := impl.Kinds(p)
	for _, s := range []spot{single(ref{"", "to"}), elements(ref{"", "To"}), single(ref{"take", "given"}), resulting("give")} {
		if !slices.Contains(marks, impl.Mark{Fn: s.fn, S: s.s, Kind: s.kind, Tags: want | 1}) {
			t.Errorf("%s: %v has other types than %d: %s", text(x), s, want|1, marksText(marks))
		}
	}
	for _, k := range []int{p.Items[1].Cond, p.L[p.L[p.Items[3].Body].Kids[0]].Kids[0]} {
		if got := impl.ExprKinds(p, k); got != want {
			t.Errorf("%s: ExprKinds = %d; want %d", text(x), got, want)
		}
	}
}

func TestTypesOfLeaves(t *testing.T) {
	for _, tags := range typedTags {
		checkTyped(t, typed(tags), tags)
	}
	for _, s := range []string{"", "1", " 2.5 ", "abc"} {
		checkTyped(t, str(s), 4)
		checkTyped(t, rex(s), 2)
	}
	checkTyped(t, num(0), 2)
	checkTyped(t, vari("other"), 1)
	checkTyped(t, vari("NR"), 2)
	checkTyped(t, vari("NF"), 2)
	checkTyped(t, of(impl.NkLength), 2)
	checkTyped(t, named(impl.NkElem, "Other", "", num(1)), 1)
	// Functions that there are not, also where a variable or a parameter has the name.
	checkTyped(t, named(impl.NkCall, "v15", ""), 0)
	checkTyped(t, named(impl.NkCall, "given", "", num(1), str("s")), 0)
	checkTyped(t, named(impl.NkCall, "Take", "", vari("v15")), 0)
	checkTyped(t, named(impl.NkCall, "NR", ""), 0)
	checkTyped(t, named(impl.NkCall, "take", ""), 1)
}

// What the types of a node with these kids are.
func typesWithKids(kind int, kids []int) int {
	switch kind {
	case impl.NkField:
		return 13
	case impl.NkElem:
		return 1
	case impl.NkStr, impl.NkCat, impl.NkSubstr, impl.NkUpper:
		return 4
	case impl.NkSet:
		return kids[1]
	case impl.NkCond:
		return kids[1] | kids[2]
	}
	return 2
}

func TestTypesOfEachKindWithEachKind(t *testing.T) {
	t.Parallel()
	for kind := range 33 {
		var sizes []int
		switch kind {
		case impl.NkNum, impl.NkStr, impl.NkRe, impl.NkVar, impl.NkCall:
			continue // see TestTypesOfLeaves
		case impl.NkField, impl.NkElem, impl.NkIn, impl.NkNot, impl.NkNeg, impl.NkUpper, impl.NkInt, impl.NkLength:
			sizes = []int{1}
		case impl.NkSubstr:
			sizes = []int{2, 3}
		case impl.NkCond:
			sizes = []int{3}
		case impl.NkSplit:
			sizes = []int{1, 2}
		default:
			sizes = []int{2}
		}
		for _, size := range sizes {
			for i := range 100 {
				kids := []int{typedTags[i%10], typedTags[i/10], typedTags[(i%10+i/10)%10]}
				if kind == impl.NkCond {
					kids = []int{kids[2], kids[0], kids[1]}
				}
				if size == 1 && i >= 10 {
					break
				}
				checkKindWithKids(t, kind, kids[:size])
			}
		}
	}
}

func checkKindWithKids(t *testing.T, kind int, kids []int) {
	t.Helper()
	x := &tree{kind: kind}
	for _, tags := range kids {
		x.kids = append(x.kids, typed(tags))
	}
	switch kind {
	case impl.NkElem, impl.NkIn:
		x.s = "Array"
	case impl.NkSplit:
		x.t = "Array"
	case impl.NkSet, impl.NkSetAdd:
		for _, target := range []*tree{vari("target"), named(impl.NkElem, "Target", "", x.kids[0]), of(impl.NkField, x.kids[0]), vari("NR"), vari("NF")} {
			checkTyped(t, of(kind, target, x.kids[1]), typesWithKids(kind, kids))
		}
		return
	}
	checkTyped(t, x, typesWithKids(kind, kids))
}

func TestTypesOfNestedExpressions(t *testing.T) {
	set := func(s string, x *tree) *tree { return of(impl.NkSet, vari(s), x) }
	for _, a := range typedTags {
		checkTyped(t, set("a", set("b", set("c", typed(a)))), a)
		checkTyped(t, of(impl.NkSetAdd, vari("a"), set("b", typed(a))), 2)
		checkTyped(t, set("a", of(impl.NkSetAdd, vari("b"), typed(a))), 2)
		checkTyped(t, of(impl.NkSet, of(impl.NkField, num(1)), set("b", typed(a))), a)
		checkTyped(t, of(impl.NkSet, named(impl.NkElem, "A", "", set("b", str("s"))), typed(a)), a)
		checkTyped(t, of(impl.NkNot, set("a", typed(a))), 2)
		for _, b := range typedTags {
			cond := of(impl.NkCond, num(1), typed(a), typed(b))
			checkTyped(t, set("a", cond), a|b)
			checkTyped(t, of(impl.NkCond, set("a", str("s")), set("b", typed(a)), set("c", typed(b))), a|b)
			checkTyped(t, of(impl.NkCond, cond, cond, cond), a|b)
			checkTyped(t, of(impl.NkCond, typed(15), typed(0), of(impl.NkCond, typed(15), typed(a), cond)), a|b)
			checkTyped(t, of(impl.NkCond, typed(15), of(impl.NkCond, typed(15), cond, typed(a)), typed(0)), a|b)
		}
	}
	checkTyped(t, of(impl.NkCond, num(1), set("a", num(1)), of(impl.NkCat, num(1), num(2))), 6)
	checkTyped(t, of(impl.NkCond, num(1), vari("NR"), of(impl.NkField, num(1))), 15)
}

func TestKindsOfAssignments(t *testing.T) {
	checkAllInferred(t,
		"", "",
		"{ }", "",
		"{ x; }", "x=1",
		"{ x = 1; }", "x=3",
		"{ x = \"s\"; }", "x=5",
		"{ x = $1; }", "x=13",
		"{ x = 1; x = \"s\"; }", "x=7",
		"{ x = 1; x = $1; }", "x=15",
		"{ x = y; }", "x=1 y=1",
		"{ x = no(); }", "x=1",
		"{ x += \"s\"; }", "x=3",
		"{ x += $1; y = x; }", "x=3 y=3",
		"{ x += y = \"s\"; }", "x=3 y=5",
		"{ x = y += \"s\"; }", "x=3 y=3",
		"{ x = y = z = $1; }", "x=13 y=13 z=13",
		"{ x = (y = 1) (z = $1); }", "x=5 y=3 z=13",
		"{ x = x; }", "x=1",
		"{ x += x; }", "x=3",
		"{ A[x = 1] = y = \"s\"; }", "A[]=5 x=3 y=5",
		"{ A[x = 1] += y = \"s\"; }", "A[]=3 x=3 y=5",
		"{ $(x = 1) = y = \"s\"; }", "x=3 y=5",
		"{ print x = 1, y = $1; printf \"%s\", z = 2 3; }", "x=3 y=13 z=5",
		"{ if (x = 1) y = 2; else z = 3; while (u = 1) v = 2; exit w = 4; }", "u=3 v=3 w=3 x=3 y=3 z=3",
		"{ for (i = 0; j = 1; k = \"s\") l = $1; delete A[m = 1]; return n = 2; }", "A[]=1 i=3 j=3 k=5 l=13 m=3 n=3",
		"x = 1 { y = $1; } BEGIN { z = 2; } END { u = 3; }", "u=3 x=3 y=13 z=3",
		"{ x = (u = 1) ? (v = \"s\") : (w = $1); }", "u=3 v=5 w=13 x=13",
		"{ (x = 1) in A; length(y = 1); split(z = 1, A, u = $1); }", "A[]=13 u=13 x=3 y=3 z=3",
		"{ x = /r/; y = !1; z = -\"s\"; u = (1 < 2); v = (1 in A); w = (1 ~ 2); }", "A[]=1 u=3 v=3 w=3 x=3 y=3 z=3",
		// Statements that are never executed count, too.
		"{ exit; x = 1; } function f() { next; y = \"s\"; return 1; z = f(); }", "x=3 y=5 z=3 f()=3",
	)
}

func TestKindsOfChains(t *testing.T) {
	checkAllInferred(t,
		"{ x = 1; y = x; z = y; }", "x=3 y=3 z=3",
		"{ z = y; y = x; x = 1; }", "x=3 y=3 z=3",
		"{ y = x; z = y; x = $1; }", "x=13 y=13 z=13",
		"{ x = y; x = z; y = 1; z = \"s\"; }", "x=7 y=3 z=5",
		"{ x = 1 ? y : z; } { y = u; } { z = v; } BEGIN { u = 1; v = \"s\"; }", "u=3 v=5 x=7 y=3 z=5",
		"{ y = x = z; z = 1; u = y; }", "u=3 x=3 y=3 z=3",
		"{ u = v += z; }", "u=3 v=3 z=1",
		// Circles.
		"{ x = y; y = x; }", "x=1 y=1",
		"{ x = y; y = x; x = 1; }", "x=3 y=3",
		"{ x = y; y = z; z = x; y = \"s\"; }", "x=5 y=5 z=5",
		"{ x = y; y = z; z = x; z = $1; u = x; v = u; y = v; }", "u=13 v=13 x=13 y=13 z=13",
		"{ x = y; y = x; y = z; u = x; z = 1; }", "u=3 x=3 y=3 z=3",
		"{ x = y; y = x; u = v; v = u; x = 1; u = \"s\"; }", "u=5 v=5 x=3 y=3",
		"{ A[1] = B[2]; B[3] = A[4]; A[5] = 1; }", "A[]=3 B[]=3",
		"{ x = A[1]; A[1] = x; x = \"s\"; }", "A[]=5 x=5",
		"{ x = f(x); x = 1; } function f(a) { return a; }", "x=3 f()=3 f.a=3",
	)
	for _, seed := range []struct{ e, tags string }{{"1", "3"}, {"\"s\"", "5"}, {"$1", "13"}, {"1 ? 1 : $1", "15"}, {"no()", "1"}} {
		forward, backward, want := "{ x100 = "+seed.e+"; ", "", ""
		for i := 101; i < 200; i++ {
			link := "x" + strconv.Itoa(i) + " = x" + strconv.Itoa(i-1) + "; "
			forward, backward, want = forward+link, link+backward, want+" x"+strconv.Itoa(i)+"="+seed.tags
		}
		checkInferred(t, forward+"}", "x100="+seed.tags+want)
		checkInferred(t, "{ "+backward+" x100 = "+seed.e+"; }", "x100="+seed.tags+want)
		checkInferred(t, "{ "+backward+" x100 = x199; x150 = "+seed.e+"; }", "x100="+seed.tags+want)
	}
}

// permuted calls visit with a list in each order.
func permuted(l []string, visit func([]string)) {
	if len(l) == 0 {
		visit(nil)
	}
	for i := range l {
		permuted(slices.Concat(l[:i], l[i+1:]), func(rest []string) { visit(append([]string{l[i]}, rest...)) })
	}
}

// Chains and circles through names, elements, functions, parameters and results, in
// each order.
func TestKindsInEachOrder(t *testing.T) {
	t.Parallel()
	for _, x := range []struct{ want, items string }{
		{"A[]=5 u=5 v=5 w=5 x=5 y=5 f()=5 f.a=5 g()=1 g.b[]=5", "{ x = \"s\"; } | { y = f(x); } | function f(a) { return a; } | { A[1] = y; } | { g(A); u = v; } | function g(b) { w = b[2]; } | { v = w; }"},
		{"x=3 y=3 f()=3 f.a=3 g()=3 g.a=3 h()=3 h.a=3", "{ x = h(y); } | { y = x; } | function f(a) { return g(a); } | function g(a) { return a; } | function h(a) { return f(a); } | y = 1 { }"},
		{"A[]=13 B[]=13 f()=13 f.a[]=13 g()=13 g.a[]=13 g.b=13", "{ f(A); B[1] = f(B); } | function f(a) { return g(a, a[1]); } | function g(a, b) { a[1] = b; return b; } | { A[2] = 1 ? \"s\" : $1; }"},
		{"x=7 y=7 z=7 f()=7 f.a=5 g()=3 g.a=3", "{ x = f(\"s\"); } | { y = x; x = y; } | function f(a) { return 1 ? a : g(1); } | function g(a) { return a; } | BEGIN { z = x; }"},
		{"A[]=15 x=15 f()=1 f.a=15 f.b[]=15", "{ f(x, A); } | { split(1, A); } | function f(a, b) { b[1] = a; a = b[2]; } | END { x = A[3]; } | { A[1] = 2; }"},
	} {
		n := 0
		permuted(strings.Split(x.items, " | "), func(items []string) {
			n++
			src := strings.Join(items, " ")
			if got := marksText(impl.Kinds(parsed(t, src))); got != x.want {
				t.Errorf("%s: Kinds = %s; want %s", src, got, x.want)
			}
			if n%100 == 1 {
				checkInferred(t, src, x.want)
			}
		})
	}
}

func TestKindsOfElements(t *testing.T) {
	checkAllInferred(t,
		"{ A[1]; }", "A[]=1",
		"{ A[1] = 1; }", "A[]=3",
		"{ A[1] = \"s\"; A[2] = 1; }", "A[]=7",
		"{ A[1] += \"s\"; }", "A[]=3",
		"{ A[1] = x; x = $1; }", "A[]=13 x=13",
		"{ x = A[1]; A[2] = \"s\"; }", "A[]=5 x=5",
		"{ A[1] = A[2]; }", "A[]=1",
		"{ A[1] = B[1]; B[1] = 1; }", "A[]=3 B[]=3",
		"{ 1 in A; delete A[1]; for (k in A) { } }", "A[]=1 k=5",
		"{ for (k in A) A[k] = k; }", "A[]=5 k=5",
		"{ split(1, A); }", "A[]=13",
		"{ split(1, A, 2); x = A[1]; }", "A[]=13 x=13",
		"{ split(1, A); A[1] = 2; }", "A[]=15",
		"{ x = split($1, A); }", "A[]=13 x=3",
		"{ A[1] = B[1] = C[1] += 1; }", "A[]=3 B[]=3 C[]=3",
		"{ A[B[1] = \"s\"] = 1; }", "A[]=3 B[]=5",
		"{ A[1] = 2; A[\"s\"] = 3; A[$1]; }", "A[]=3",
	)
}

func TestKindsOfElementsOfTiedNames(t *testing.T) {
	checkAllInferred(t,
		// Directly.
		"{ f(A); x = A[1]; } function f(a) { a[1] = 1; }", "A[]=3 x=3 f()=1 f.a[]=3",
		"{ f(A); A[1] = 1; } function f(a) { return a[1]; }", "A[]=3 f()=3 f.a[]=3",
		"function f(a) { split(1, a); } { x = A[1]; f(A); }", "A[]=13 x=13 f()=1 f.a[]=13",
		"{ f(A); split(1, A); } function f(a) { x = a[1]; }", "A[]=13 x=13 f()=1 f.a[]=13",
		"{ f(A); } function f(a) { a[1] += 1; }", "A[]=3 f()=1 f.a[]=3",
		"{ f(A); A[1] += 1; } function f(a) { x = a[1]; }", "A[]=3 x=3 f()=1 f.a[]=3",
		// Through several calls.
		"{ f(A); } function f(a) { g(a); } function g(b) { h(b); } function h(c) { c[1] = \"s\"; }", "A[]=5 f()=1 f.a[]=5 g()=1 g.b[]=5 h()=1 h.c[]=5",
		"{ f(A); A[1] = \"s\"; } function h(c) { x = c[1]; } function g(b) { h(b); } function f(a) { g(a); }", "A[]=5 x=5 f()=1 f.a[]=5 g()=1 g.b[]=5 h()=1 h.c[]=5",
		"{ f(A); A[1] = \"s\"; } function f(a) { g(a); } function g(b) { h(b); b[1] = 1; } function h(c) { x = c[1]; }", "A[]=7 x=7 f()=1 f.a[]=7 g()=1 g.b[]=7 h()=1 h.c[]=7",
		// Two names that are tied to one parameter.
		"{ f(A); f(B); A[1] = 1; x = B[1]; } function f(a) { }", "A[]=3 B[]=3 x=3 f()=1 f.a[]=3",
		"{ f(A); f(B); f(C); A[1] = 1; B[1] = \"s\"; x = C[1]; } function f(a) { }", "A[]=7 B[]=7 C[]=7 x=7 f()=1 f.a[]=7",
		"{ f(A); } { g(A); } function f(a) { a[1] = 1; } function g(b) { return b[1]; }", "A[]=3 f()=1 f.a[]=3 g()=3 g.b[]=3",
		"function f(a) { h(a); a[1] = 1; } function g(b) { h(b); return b[1]; } function h(c) { }", "f()=1 f.a[]=3 g()=3 g.b[]=3 h()=1 h.c[]=3",
		// A function that calls itself.
		"function f(a, b) { f(b, a); a[1] = 1; x = b[1]; }", "x=3 f()=1 f.a[]=3 f.b[]=3",
		"function f(a, b) { f(a, b); a[1] = 1; x = b[1]; }", "x=1 f()=1 f.a[]=3 f.b[]=1",
		"{ f(A, B, C); A[1] = 1; x = C[1]; } function f(a, b, c) { f(b, c, a); }", "A[]=3 B[]=3 C[]=3 x=3 f()=1 f.a[]=3 f.b[]=3 f.c[]=3",
		"function f(a) { g(a); a[1] = 1; } function g(b) { f(b); f(C); x = C[2]; }", "C[]=3 x=3 f()=1 f.a[]=3 g()=1 g.b[]=3",
		// One name as several arguments.
		"{ f(A, A); } function f(a, b) { a[1] = 1; return b[1]; }", "A[]=3 f()=3 f.a[]=3 f.b[]=3",
		"{ f(A, B); } function f(a, b) { a[1] = 1; b[1] = \"s\"; }", "A[]=3 B[]=5 f()=1 f.a[]=3 f.b[]=5",
		// Functions with one name, and parameters with one name.
		"{ f(A); } function f(a) { } function f(a) { a[1] = 1; }", "A[]=3 f()=1 f.a[]=3",
		"{ f(A); x = A[1]; } function f(a) { a; } function f(b) { b[1] = 1; }", "A=1 A[]=1 x=1 f()=1 f.a=1 f.a[]=1 f.b[]=3",
		"{ f(A, B); x = B[1]; } function f(a, a) { a[1] = 1; }", "A[]=3 B[]=3 x=3 f()=1 f.a[]=3",
		// Names that are not tied.
		"{ f(A[1]); } function f(a) { a[1] = \"s\"; }", "A[]=1 f()=1 f.a=1 f.a[]=5",
		"{ f(1, A); x = A[1]; } function f(a) { a[1] = \"s\"; }", "A[]=1 x=1 f()=1 f.a=3 f.a[]=5",
		"{ no(A); x = A[1]; } function f(a) { a[1] = \"s\"; }", "A[]=1 x=1 f()=1 f.a[]=5",
		"{ f(A = 1); A[1]; } function f(a) { a[1] = \"s\"; }", "A=3 A[]=1 f()=1 f.a=3 f.a[]=5",
		"{ a[1] = 1; x = a[1]; } function f(a) { a[1] = \"s\"; }", "a[]=3 x=3 f()=1 f.a[]=5",
		"{ x = A; A[1] = 1; x[1]; }", "A=1 A[]=3 x=1 x[]=1",
	)
}

func TestKindsOfEachShape(t *testing.T) {
	checkAllInferred(t,
		"{ f(x); } function f(a) { }", "x=1 f()=1 f.a=1",
		"{ f(x); x = 1; } function f(a) { }", "x=3 f()=1 f.a=3",
		"{ f(x); x[1] = 1; } function f(a) { }", "x[]=3 f()=1 f.a[]=3",
		"{ f(x); x = 1; } function f(a) { a[1] = \"s\"; }", "x=3 x[]=5 f()=1 f.a=3 f.a[]=5",
		"{ f(x); a = 1; a[1] = \"s\"; } function f(a) { }", "a=3 a[]=5 x=1 f()=1 f.a=1",
		"function f(a) { a = $1; a[1] = 1; }", "f()=1 f.a=13 f.a[]=3",
		"{ for (x in x) { } }", "x=5 x[]=1",
		"{ split(x, x); y = x; }", "x=1 x[]=13 y=1",
		"{ x = x[x]; x[1] = 1; }", "x=3 x[]=3",
		"{ x = 1; f(x); } { y = x[1]; } function f(a) { split(a, a); }", "x=3 x[]=13 y=13 f()=1 f.a=3 f.a[]=13",
		// A type that only a name with another shape has does not show.
		"{ f(x); } function f(a) { g(a[1] = 1, a); } function g(b, c) { }", "x[]=3 f()=1 f.a[]=3 g()=1 g.b=3 g.c[]=3",
	)
	// The scalar types of an array, and the elements of a scalar, are asked for by
	// their nodes.
	p := parsed(t, "{ f(x); x[1] = 1; } function f(a) { }")
	if got := impl.ExprKinds(p, 0); got != 1 || p.L[0].S != "x" {
		t.Error(got)
	}
}

func TestKindsOfParameters(t *testing.T) {
	checkAllInferred(t,
		"{ f(1); } function f(a) { }", "f()=1 f.a=3",
		"{ f(1); f(\"s\"); } function f(a) { }", "f()=1 f.a=7",
		"{ f(x); x = $1; } function f(a) { }", "x=13 f()=1 f.a=13",
		"{ f(x); } function f(a) { a = 1; }", "x=1 f()=1 f.a=3",
		"{ f(NR); f(NF); } function f(a) { }", "f()=1 f.a=3",
		"{ f(A[1]); A[1] = \"s\"; } function f(a) { }", "A[]=5 f()=1 f.a=5",
		"{ f(x = 1, y += \"s\", 1 2, $1, -z); } function f(a, b, c, d, e) { }", "x=3 y=3 z=1 f()=1 f.a=3 f.b=3 f.c=5 f.d=13 f.e=3",
		"{ f(1 ? x : y); x = 1; y = \"s\"; } function f(a) { }", "x=3 y=5 f()=1 f.a=7",
		"{ f(1); } function f(a) { g(a); } function g(b) { h(b, \"s\"); } function h(c, d) { }", "f()=1 f.a=3 g()=1 g.b=3 h()=1 h.c=3 h.d=5",
		"function h(c) { x = c; } function g(b) { h(b); } function f(a) { g(a); } { f(1); }", "x=3 f()=1 f.a=3 g()=1 g.b=3 h()=1 h.c=3",
		"function f(a, b) { f(b, a); } { f(1, \"s\"); }", "f()=1 f.a=7 f.b=7",
		"function f(a, b, c) { f(b, c, 1); }", "f()=1 f.a=3 f.b=3 f.c=3",
		"function f(a) { f(f(a) 1); }", "f()=1 f.a=5",
		// Too many arguments, too few, none, and unknown functions.
		"{ f(1, x = 2); } function f(a) { }", "x=3 f()=1 f.a=3",
		"{ f(1, \"s\", $1); } function f() { }", "f()=1",
		"{ f(1); } function f(a, b) { }", "f()=1 f.a=3 f.b=1",
		"{ f(); } function f(a, b) { }", "f()=1 f.a=1 f.b=1",
		"{ no(1, x = 1); } function f(a) { }", "x=3 f()=1 f.a=1",
		// A name refers to the parameter, if there is one.
		"function f(x) { x = 1; y = 2; } { x = \"s\"; }", "x=5 y=3 f()=1 f.x=3",
		"function f(x) { } function g() { x = 1; }", "x=3 f()=1 f.x=1 g()=1",
		"function f(x) { g(x); } function g(x) { x = 1; }", "f()=1 f.x=1 g()=1 g.x=3",
		// Functions with one name, and parameters with one name.
		"{ f(1, \"s\"); } function f(a) { } function f(b, c) { }", "f()=1 f.a=3 f.b=1 f.c=1",
		"function f(a) { b = 1; } function f(b) { a = \"s\"; }", "f()=1 f.a=5 f.b=3",
		"{ f(1, \"s\"); } function f(a, a) { }", "f()=1 f.a=7",
		"{ f(1, \"s\", $1); } function f(a, b, a) { b = a; }", "f()=1 f.a=15 f.b=15",
		"{ f(1); } function f(a, a) { }", "f()=1 f.a=3",
		"{ f(1); } function f() { } function f(a) { }", "f()=1 f.a=1",
	)
}

func TestKindsOfResults(t *testing.T) {
	checkAllInferred(t,
		"function f() { }", "f()=1",
		"function f() { return; }", "f()=1",
		"function f() { return 1; }", "f()=3",
		"function f() { return 1; return \"s\"; return; }", "f()=7",
		"function f() { if ($1) return $1; while (1) { return NR; } }", "f()=15",
		"function f() { return x; } { x = \"s\"; }", "x=5 f()=5",
		"function f(a) { return a; } { x = f(1); y = f(\"s\"); }", "x=7 y=7 f()=7 f.a=7",
		"function f(a) { return a = $1; }", "f()=13 f.a=13",
		"function f(a) { return a[1]; } { f(A); A[1] = 1; }", "A[]=3 f()=3 f.a[]=3",
		"function f() { return A[1]; } { split(1, A); }", "A[]=13 f()=13",
		"function f() { return f(); }", "f()=1",
		"function f() { return f(); return 1; }", "f()=3",
		"function f(a) { return f(a); return a; } { f(\"s\"); }", "f()=5 f.a=5",
		"function f(a) { return f(f(a)) 1; }", "f()=5 f.a=5",
		"function f() { return g(); } function g() { return h(); } function h() { return f(); return 1; }", "f()=3 g()=3 h()=3",
		"function f() { return no(); } { x = f(); y = no(); }", "x=1 y=1 f()=1",
		"function f() { return 1 ? no() : 2; } { x = f(); }", "x=3 f()=3",
		"function f() { return g(1); } function g(a) { return a; }", "f()=3 g()=3 g.a=3",
		"{ x = f(1, 2, 3); } function f() { return 1; }", "x=3 f()=3",
		"{ x = f(); } function f(a) { return a; }", "x=1 f()=1 f.a=1",
		// A return of an item counts for no function.
		"{ return 1; } function f() { }", "f()=1",
		"function f() { } { return $1; } function g() { return; } BEGIN { return 1; } END { return \"s\"; }", "f()=1 g()=1",
		"{ return x = 1; }", "x=3",
		"1 { return f(); } function f() { return \"s\"; }", "f()=5",
		// Functions with one name are one.
		"function f() { return 1; } function f() { return \"s\"; }", "f()=7",
		"function f() { } { x = f(); } function f() { return 1; }", "x=3 f()=3",
		"function f(a) { } function f(b) { return b; } { x = f(1); }", "x=1 f()=1 f.a=3 f.b=1",
		"function f() { return 1; } function ff() { return \"s\"; } function F() { return $1; } { f = 1 2; }", "f=5 F()=13 f()=3 ff()=5",
		// A name may be that of a function.
		"function f(f) { return f; } { f = f(1); }", "f=3 f()=3 f.f=3",
	)
}

func TestKindsOfCounters(t *testing.T) {
	for _, s := range []string{"NR", "NF"} {
		for _, x := range [][2]string{
			{"{ NX; }", ""},
			{"{ NX = 1; }", ""},
			{"{ NX = \"s\"; x = NX; }", "x=3"},
			{"{ x = NX = \"s\"; }", "x=5"},
			{"{ x = NX += \"s\"; y = NX; }", "x=3 y=3"},
			{"{ for (NX in A) x = NX; }", "A[]=1 x=3"},
			{"{ x = NX; }", "x=3"},
			{"{ NX = $1; f(NX); } function f(a) { }", "f()=1 f.a=3"},
			{"{ f(NX = $1); } function f(a) { }", "f()=1 f.a=13"},
			{"{ f(NX); } function f(a) { a = \"s\"; } { x = NX; }", "x=3 f()=1 f.a=7"},
			{"function f() { NX = \"s\"; return NX; }", "f()=3"},
			{"{ NX(1); } function NX(a) { return a; }", "NX()=3 NX.a=3"},
			{"{ A[NX] = NX; }", "A[]=3"},
			// As parameters they are names like others.
			{"function f(NX) { }", "f()=1 f.NX=1"},
			{"function f(NX) { NX = \"s\"; return NX; }", "f()=5 f.NX=5"},
			{"function f(NX) { NX += \"s\"; }", "f()=1 f.NX=3"},
			{"function f(NX) { for (NX in A) { } }", "A[]=1 f()=1 f.NX=5"},
			{"function f(NX) { g(NX); } function g(a) { } { f($1); }", "f()=1 f.NX=13 g()=1 g.a=13"},
			{"function f(NX) { NX[1] = 1; split(1, NX); }", "f()=1 f.NX[]=15"},
			{"function f(NX) { } { NX = \"s\"; x = NX; }", "x=3 f()=1 f.NX=1"},
			{"function f(NX) { } function g() { NX = \"s\"; return NX; }", "f()=1 f.NX=1 g()=3"},
			{"function f(NX, NX) { } { f(1, \"s\"); }", "f()=1 f.NX=7"},
			// They have no marks, but they are tied, and what is in them is used.
			{"{ NX[1] = \"s\"; }", ""},
			{"{ NX[1]; x = NX[1]; }", "x=1"},
			{"{ NX[1] = \"s\"; x = NX[1]; }", "x=5"},
			{"{ split(1, NX); x = NX[1]; }", "x=13"},
			{"{ f(NX); x = NX[1]; } function f(a) { a[1] = \"s\"; }", "x=5 f()=1 f.a=3 f.a[]=5"},
			{"{ f(NX); g(NX); } function f(a) { a[1] = \"s\"; } function g(b) { return b[1]; }", "f()=1 f.a=3 f.a[]=5 g()=5 g.b=3 g.b[]=5"},
		} {
			checkInferred(t, strings.ReplaceAll(x[0], "NX", s), strings.ReplaceAll(x[1], "NX", s))
		}
	}
	checkAllInferred(t, "{ NRx = 1; nr = 1; N = 1; NFR = NR = \"s\"; }", "N=3 NFR=5 NRx=3 nr=3")
}

func TestKindsOfOtherTargets(t *testing.T) {
	checkAllInferred(t,
		"{ $1 = 1; x = $1; }", "x=13",
		"{ $x = \"s\"; }", "x=1",
		"{ $x += y; }", "x=1 y=1",
		"{ x = $1 = 1; y = $1 += $2; z = $1 = $2; }", "x=3 y=3 z=13",
		"{ $A[1] = 2; $f() = \"s\"; }", "A[]=1",
		"{ $(x = 1) = \"s\"; }", "x=3",
		"{ for (x in A) y = x; }", "A[]=1 x=5 y=5",
		"{ for (x in A) { } A[1] = 1; x = $1; }", "A[]=3 x=13",
		"function f(a, b) { for (a in b) b[a] = a; }", "f()=1 f.a=5 f.b[]=5",
		"{ f(A, x); } function f(a, b) { for (b in a) { } }", "A[]=1 x=1 f()=1 f.a[]=1 f.b=5",
		"{ if (1) for (x in A) for (y in B) z = x y; }", "A[]=1 B[]=1 x=5 y=5 z=5",
	)
}

func TestOrderOfKinds(t *testing.T) {
	checkAllInferred(t,
		"{ b; a; c; aa; B; _; A; Z; z9; z10; a_; a0; aA; }", "A=1 B=1 Z=1 _=1 a=1 a0=1 aA=1 a_=1 aa=1 b=1 c=1 z10=1 z9=1",
		"function ff(z) { } function f(a, c, b) { } function F(z) { } function f0(a) { } function _() { } { z; a; }", "a=1 z=1 F()=1 F.z=1 _()=1 f()=1 f.a=1 f.b=1 f.c=1 f0()=1 f0.a=1 ff()=1 ff.z=1",
		"{ x; x[1]; y[1]; w; } function f(b, a) { b; b[1]; a[1]; }", "w=1 x=1 x[]=1 y[]=1 f()=1 f.a[]=1 f.b=1 f.b[]=1",
		"function b() { } function a() { } function b() { } function a() { }", "a()=1 b()=1",
		"function f() { } function f(a) { } function f(b, a) { } function f() { }", "f()=1 f.a=1 f.b=1",
	)
	p := parsed(t, "{ f(x, y); g(u, v); z[1]; w; h(i, j); } function f(a, b) { g(a, c); a[1]; } function g(a, b) { b = 1; } function h(a, b) { h(b, a); k(l, m); } function k(a, b) { a = \"s\"; }")
	marks := impl.Kinds(p)
	for range 200 {
		if !slices.Equal(impl.Kinds(p), marks) {
			t.Fatalf("%s; %s", marksText(marks), marksText(impl.Kinds(p)))
		}
	}
}

func TestKindsOfProgramsOfOtherTests(t *testing.T) {
	t.Parallel()
	for seed := range 300 {
		for _, rules := range [][]rule{(&knots{wilds{dice: treeMaker(seed)}}).rules(), (&runs{wilds: wilds{dice: treeMaker(seed)}}).rules(), (&wilds{dice: treeMaker(seed)}).rules()} {
			if p, at := impl.Parse(progText(rules)); at == -1 {
				checkSomeTypes(t, p, 7)
			}
		}
	}
}

// checkNoKinds checks what is returned for a program that is not valid.
func checkNoKinds(t *testing.T, p impl.Prog) {
	t.Helper()
	if l := impl.Kinds(p); len(l) > 0 {
		t.Errorf("Kinds(%v) = %v", p, l)
	}
	for _, k := range []int{math.MinInt, -1, 0, 1, len(p.L) / 2, len(p.L) - 1, len(p.L), math.MaxInt} {
		if got := impl.ExprKinds(p, k); got != 0 {
			t.Errorf("ExprKinds(%v, %d) = %d", p, k, got)
		}
	}
	for _, m := range []impl.Mark{{S: "x"}, {S: "x", Kind: impl.MkElem}, {Fn: "f", S: "a"}, {Fn: "f", S: "a", Kind: impl.MkElem}, {Fn: "f", Kind: impl.MkResult}, {}} {
		if got := impl.KindsOf(p, m.Fn, m.S, m.Kind); got != 0 {
			t.Errorf("KindsOf(%v, %q, %q, %d) = %d", p, m.Fn, m.S, m.Kind, got)
		}
	}
}

func TestKindsOfChangedPrograms(t *testing.T) {
	t.Parallel()
	valid, not := 0, 0
	check := func(p impl.Prog) {
		if impl.ProgOk(p) {
			valid++
			checkSomeTypes(t, p, 1+len(p.L)/4)
		} else {
			not++
			checkNoKinds(t, p)
		}
	}
	for _, src := range []string{
		"{ f(x, 1); } function f(a, b) { a[b] = $1; return b; }", "function f(a) { return g(a); } function g(f) { f += x = 1; } f(x) { }", "function f(f) { for (x in f) split(x, a); }", "function f(a, a) { a = 1 ? NR : x[2]; } BEGIN { f(NR); return f; }",
		"", "{ }", "function f() { }",
	} {
		p := parsed(t, src)
		check(p)
		for k := range p.L {
			eachNodeChange(p, k, check)
		}
		for i := range p.Items {
			eachItemChange(p, i, check)
		}
		eachOrderChange(p, check)
	}
	dice := treeMaker(11)
	for range 2000 {
		check(randomProg(&dice))
	}
	if valid < 400 || not < 4000 {
		t.Error(valid, not)
	}
}

func TestKindsOfChosenPrograms(t *testing.T) {
	x := impl.Node{Kind: impl.NkVar, S: "x"}
	function := []impl.Item{{When: impl.WnFunc, Name: "f", Params: []string{"a"}, Cond: -1, Body: 1}}
	all := []impl.Item{{When: impl.WnAll, Cond: -1, Body: 1}}
	for _, p := range []impl.Prog{
		sampleProg(), {L: []impl.Node{x}}, {L: []impl.Node{{Kind: impl.NkBlock}}}, {Items: function}, {L: []impl.Node{x, {Kind: impl.NkBlock, Kids: []int{0}}}, Items: function}, {L: []impl.Node{x, {Kind: impl.NkDo, Kids: []int{0}}}, Items: all},
		{L: []impl.Node{{Kind: impl.NkSet, Kids: []int{0, 0}}, {Kind: impl.NkBlock, Kids: []int{0}}}, Items: all}, {L: []impl.Node{{Kind: impl.NkSet}, {Kind: impl.NkBlock, Kids: []int{0}}}, Items: all}, {L: []impl.Node{{Kind: impl.NkCond, Kids: []int{-1, 7, math.MaxInt}}, {Kind: impl.NkCall, S: "f", Kids: []int{0}}}, Items: function},
		{L: []impl.Node{{Kind: impl.NkReturn, Kids: []int{1}}, {Kind: impl.NkBlock, Kids: []int{0}}}, Items: function}, {L: []impl.Node{{Kind: -1, S: "f"}, {Kind: math.MaxInt}}, Items: function}, {L: []impl.Node{{Kind: impl.NkCond, Kids: []int{0, 0, 0}}, {Kind: impl.NkBlock}}, Items: function},
		{L: []impl.Node{{Kind: impl.NkElem, S: "a", Kids: []int{0}}, {Kind: impl.NkBlock, Kids: []int{0}}}, Items: []impl.Item{{Body: 1, Cond: -1}, {Body: 1, Cond: -1}}},
	} {
		checkNoKinds(t, p)
	}
	// Kinds that no expression has.
	p := parsed(t, "{ x = 1; f(x); } function f(a) { return a; }")
	checkTypes(t, p)
	for _, kind := range []int{-1, 33, 39, 40, 53, 54, math.MaxInt, math.MinInt} {
		q := copyProg(p)
		q.L[1].Kind = kind
		checkNoKinds(t, q)
	}
	for _, s := range []string{"", "if", "a b", "\xff", strings.Repeat("n", 41), strings.Repeat("n", 5000)} {
		q := copyProg(p)
		q.Items[1].Params[0] = s
		checkNoKinds(t, q)
	}
}

func TestKindsOfLargePrograms(t *testing.T) {
	t.Parallel()
	const many = 300000
	soon(t, "many nodes", func() {
		for kind := -1; kind <= impl.NkBlock+1; kind += 3 {
			checkNoKinds(t, impl.Prog{L: slices.Repeat([]impl.Node{{Kind: kind, S: "f", T: "f", Kids: []int{0, 0, 0}}}, many), Items: []impl.Item{{When: impl.WnFunc, Name: "f", Params: []string{"a"}, Cond: -1, Body: many - 1}}})
		}
	})
	soon(t, "many functions", func() {
		checkNoKinds(t, impl.Prog{L: []impl.Node{{Kind: impl.NkBlock}}, Items: slices.Repeat([]impl.Item{{When: impl.WnFunc, Name: "f", Params: []string{"f"}, Cond: -1}}, many)})
	})
}

// checkLargeKinds measures a valid program that is about as large as possible.
func checkLargeKinds(t *testing.T, name string, rules ...rule) {
	t.Helper()
	p := progOf(rules...)
	if !impl.ProgOk(p) {
		t.Errorf("%s: %d bytes, %d nodes", name, len(progText(rules)), len(p.L))
	}
	soon(t, name, func() { checkSomeTypes(t, p, 1+len(p.L)/20) })
}

func TestKindsOfLargestPrograms(t *testing.T) {
	t.Parallel()
	var backward, chain, params, arguments = block(), []rule(nil), []string(nil), []*tree(nil)
	name := func(i int) *tree { return vari("x" + strconv.Itoa(i)) }
	for i := range 190 {
		backward.kids = append(backward.kids, do(of(impl.NkSet, name(100+i), name(101+i))))
	}
	checkLargeKinds(t, "a backward chain", rule{when: impl.WnAll, body: backward}, always(do(of(impl.NkSet, name(290), of(impl.NkField, num(1))))))
	checkLargeKinds(t, "a circle", rule{when: impl.WnAll, body: backward}, always(do(of(impl.NkSet, name(290), name(100))), do(of(impl.NkSet, name(200), str("s")))))
	for i := range 60 {
		fn, next := "f"+strconv.Itoa(i), "f"+strconv.Itoa(i+1)
		chain = append(chain, function(fn, []string{"a", "r"}, block(of(impl.NkReturn, named(impl.NkCall, next, "", vari("a"), vari("r"))))))
	}
	last := function("f60", []string{"a", "r"}, block(of(impl.NkReturn, of(impl.NkSet, named(impl.NkElem, "r", "", num(1)), vari("a")))))
	first := always(do(of(impl.NkSet, vari("x"), named(impl.NkCall, "f0", "", of(impl.NkField, num(1)), vari("A")))))
	checkLargeKinds(t, "a chain of functions", append([]rule{first, last}, chain...)...)
	for i := range 240 {
		params = append(params, "a"+strconv.Itoa(100+i))
		arguments = append(arguments, vari(params[i]))
	}
	call := named(impl.NkCall, "f", "", append(arguments[1:], of(impl.NkSet, named(impl.NkElem, "a300", "", num(1)), str("s")))...)
	checkLargeKinds(t, "a wide call", function("f", params, block(do(call))))
	cond := num(1)
	for range 17 {
		cond = of(impl.NkCond, num(1), of(impl.NkSet, vari("x"), vari("y")), cond)
	}
	checkLargeKinds(t, "deep conditions", always(do(of(impl.NkSet, vari("z"), cond)), do(of(impl.NkSet, vari("y"), vari("z")))))
	call = named(impl.NkCall, "f", "", slices.Repeat([]*tree{vari("x")}, 790)...)
	checkLargeKinds(t, "many arguments", function("f", slices.Repeat([]string{"a"}, 500), block(do(call))))
	checkLargeKinds(t, "many functions", slices.Repeat([]rule{function("f", nil, block())}, impl.MaxSrc/len("function f() { }\n"))...)
	checkLargeKinds(t, "many parameters", function("f", slices.Repeat([]string{"a", "b"}, 650), block(do(named(impl.NkCall, "f", "", vari("x"), vari("y"))))))
}

func TestKindsLeaveArgumentsUnchanged(t *testing.T) {
	progs := []impl.Prog{{}, sampleProg()}
	for seed := range 200 {
		w := streams{wilds: wilds{dice: treeMaker(seed)}}
		progs = append(progs, progOf(w.rules()...))
	}
	dice := treeMaker(5)
	for range 500 {
		progs = append(progs, randomProg(&dice))
	}
	for _, p := range progs {
		q, same := spoiled(p)
		marks := impl.Kinds(q)
		for k := -1; k <= len(q.L); k++ {
			impl.ExprKinds(q, k)
		}
		impl.KindsOf(q, "f", "a", 0)
		if !same() {
			t.Errorf("%v is changed to %v", p, q)
		}
		// Nothing is kept from call to call, and no result is memory of another.
		clear(marks[:cap(marks)])
		if again, third := impl.Kinds(p), impl.Kinds(copyProg(p)); !slices.Equal(again, third) || slices.ContainsFunc(again, func(m impl.Mark) bool { return m == impl.Mark{} }) {
			t.Errorf("%v: Kinds = %v, and then %v", p, again, third)
		}
	}
}

func TestKindsAreNew(t *testing.T) {
	p := parsed(t, "{ alpha = $0; beta[alpha] = alpha; gamma(alpha, beta); } function gamma(delta, epsilon) { return delta; }")
	var strs []string
	for _, n := range p.L {
		strs = append(strs, n.S, n.T)
	}
	for _, item := range p.Items {
		strs = append(append(strs, item.Name), item.Params...)
	}
	marks := impl.Kinds(p)
	for i, m := range marks {
		for _, s := range strs {
			if sharesBytes(m.Fn, s) || sharesBytes(m.S, s) {
				t.Errorf("%s shares the bytes of %q", markText(m), s)
			}
		}
		for _, other := range marks[:i] {
			if sharesBytes(m.Fn, other.Fn) || sharesBytes(m.S, other.S) {
				t.Errorf("%s shares bytes with %s", markText(m), markText(other))
			}
		}
	}
	if len(marks) != 5 {
		t.Error(marksText(marks))
	}
}

func TestKindsOf(t *testing.T) {
	p := parsed(t, "{ x = 1; A[1] = \"s\"; B = $1; B[2] = 3; NR; g(y); } function f(a, b) { b[1] = 1 2; return $1; } function g(NR) { } function f() { return 2; }")
	for _, m := range []impl.Mark{
		{S: "x", Tags: 3}, {S: "A", Kind: 1, Tags: 5}, {S: "B", Tags: 13}, {S: "B", Kind: 1, Tags: 3}, {S: "y", Tags: 1}, {Fn: "f", Kind: 2, Tags: 15}, {Fn: "f", S: "a", Tags: 1}, {Fn: "f", S: "b", Kind: 1, Tags: 5}, {Fn: "g", Kind: 2, Tags: 1}, {Fn: "g", S: "NR", Tags: 1},
		{S: "x", Kind: 1}, {S: "x", Kind: 2}, {S: "x", Kind: -1}, {S: "x", Kind: 3}, {S: "x", Kind: math.MaxInt}, {S: "x", Kind: math.MinInt}, {S: "A"}, {S: "A", Kind: 2}, {S: "B", Kind: 2}, {S: "NR"}, {S: "NR", Kind: 1}, {S: "NF"}, {S: "a"}, {S: "f"}, {S: "f", Kind: 2}, {S: "g", Kind: 2}, {S: "no"}, {},
		{Kind: 1}, {Kind: 2}, {Fn: "f"}, {Fn: "f", Kind: 1}, {Fn: "f", S: "a", Kind: 1}, {Fn: "f", S: "b"}, {Fn: "f", S: "f", Kind: 2}, {Fn: "f", S: "a", Kind: 2}, {Fn: "f", S: "x"}, {Fn: "g", S: "a"}, {Fn: "h", Kind: 2}, {Fn: "F", Kind: 2}, {Fn: "g", S: "y"}, {Fn: "x"}, {Fn: "x", Kind: 2}, {Fn: "x", S: "x"},
		{S: "X"}, {S: "xx"}, {S: "x "}, {S: "\x00"}, {S: "\xff"}, {S: "f.a"}, {S: strings.Repeat("x", 100000)}, {Fn: strings.Repeat("f", 100000), Kind: 2}, {Fn: "f ", Kind: 2},
	} {
		if got := impl.KindsOf(p, m.Fn, m.S, m.Kind); got != m.Tags {
			t.Errorf("KindsOf %v = %d", m, got)
		}
		if got := impl.KindsOf(impl.Prog{}, m.Fn, m.S, m.Kind); got != 0 {
			t.Errorf("KindsOf %v in the empty program = %d", m, got)
		}
	}
}

func TestKindText(t *testing.T) {
	for tags, want := range map[int]string{
		-1: "", 0: "nothing", 1: "none", 2: "num", 3: "none+num", 4: "str", 5: "none+str", 6: "num+str", 7: "none+num+str", 8: "both", 9: "none+both", 10: "num+both", 11: "none+num+both", 12: "str+both", 13: "none+str+both", 14: "num+str+both", 15: "none+num+str+both", 16: "",
		17: "", 31: "", 32: "", 1 << 32: "", 1<<32 + 5: "", -2: "", -16: "", -15: "", math.MaxInt: "", math.MinInt: "", math.MinInt + 5: "",
	} {
		if got := impl.KindText(tags); got != want {
			t.Errorf("KindText(%d) = %q; want %q", tags, got, want)
		}
	}
}

// wantMarksIn is the definition.
func wantMarksIn(a, b []impl.Mark) bool {
	for _, mark := range a {
		if mark.Tags > 15 || !held(mark, b) {
			return false
		}
	}
	return true
}

func checkMarksIn(t *testing.T, a, b []impl.Mark, want bool) {
	t.Helper()
	if got := impl.MarksIn(a, b); got != want {
		t.Errorf("MarksIn(%v, %v) = %v", a, b, got)
	}
}

func TestMarksIn(t *testing.T) {
	x := func(tags ...int) []impl.Mark {
		var l []impl.Mark
		for _, n := range tags {
			l = append(l, impl.Mark{Fn: "f", S: "x", Tags: n})
		}
		return l
	}
	checkMarksIn(t, nil, nil, true)
	checkMarksIn(t, []impl.Mark{}, []impl.Mark{}, true)
	checkMarksIn(t, nil, x(1), true)
	checkMarksIn(t, nil, x(-1, 16), true)
	checkMarksIn(t, x(1), nil, false)
	checkMarksIn(t, x(0), nil, false)
	for a := -20; a < 40; a++ {
		for b := -20; b < 40; b++ {
			want := a >= 0 && a < 16 && b >= 0 && b < 16 && a|b == b
			checkMarksIn(t, x(a), x(b), want)
			checkMarksIn(t, x(0, a), x(0, b), want || a == 0)
			checkMarksIn(t, x(a, a), x(b, b, b), want)
		}
	}
	for _, n := range []int{math.MinInt, math.MaxInt, math.MinInt + 5, -1 << 32, 1 << 32, 1<<32 + 5, 16, 17, -11} {
		checkMarksIn(t, x(n), x(n, 15, 5, 0), false)
		checkMarksIn(t, x(0), x(n), false)
		checkMarksIn(t, x(5), x(n), false)
		checkMarksIn(t, x(5), x(n, 7), true)
		checkMarksIn(t, x(5, n), x(15), false)
	}
	// The same mark several times, with other tags: one of them must have all.
	checkMarksIn(t, x(3), x(1, 2), false)
	checkMarksIn(t, x(3), x(1, 2, 7), true)
	checkMarksIn(t, x(3), x(11, 2, 1), true)
	checkMarksIn(t, x(1, 2), x(3), true)
	checkMarksIn(t, x(1, 2), x(1, 2), true)
	checkMarksIn(t, x(1, 4), x(1, 2, 3), false)
	checkMarksIn(t, x(1, 2, 4, 8), x(6, 9), true)
	checkMarksIn(t, x(1, 2, 4, 8, 3), x(6, 9), false)
	// Another function, name or kind.
	for _, m := range []impl.Mark{{Fn: "g", S: "x"}, {S: "x"}, {Fn: "f", S: "y"}, {Fn: "f"}, {Fn: "f", S: "x", Kind: 1}, {Fn: "f", S: "x", Kind: -1}, {Fn: "f", S: "x", Kind: math.MaxInt}, {Fn: "F", S: "x"}, {Fn: "x", S: "f"}, {Fn: "fx"}, {S: "fx"}, {Fn: "f", S: "x\x00"}, {Fn: "f\xff", S: "x"}} {
		for _, kind := range []int{m.Kind, m.Kind ^ 5} {
			m.Kind, m.Tags = kind, 15
			checkMarksIn(t, x(1), []impl.Mark{m}, false)
			checkMarksIn(t, []impl.Mark{m}, x(15), false)
			checkMarksIn(t, []impl.Mark{m}, append(x(15), m), true)
			checkMarksIn(t, append(x(1), m), []impl.Mark{m, x(3)[0]}, true)
			checkMarksIn(t, append(x(1), m), []impl.Mark{m}, false)
			checkMarksIn(t, append(x(1), m), x(1), false)
		}
	}
}

func drawMarks(dice *treeMaker, most int) []impl.Mark {
	var l []impl.Mark
	for range dice.below(most + 1) {
		l = append(l, impl.Mark{Fn: []string{"", "f"}[dice.below(2)], S: []string{"", "x"}[dice.below(2)], Kind: dice.below(2), Tags: dice.below(18) - 1})
	}
	return l
}

func TestMarksInOfDrawnLists(t *testing.T) {
	dice := treeMaker(11)
	in := 0
	for range 100000 {
		a, b := drawMarks(&dice, 4), drawMarks(&dice, 12)
		if wantMarksIn(a, b) && len(a) > 0 {
			in++
		}
		keptA, keptB := slices.Clone(a), slices.Clone(b)
		checkMarksIn(t, a, b, wantMarksIn(a, b))
		if !slices.Equal(a, keptA) || !slices.Equal(b, keptB) {
			t.Fatal("MarksIn changes its arguments")
		}
	}
	if in < 2000 {
		t.Error(in)
	}
}

// A list with valid tags is contained in itself, and what is contained in a list is
// contained where that list is.
func TestMarksInIsAnOrder(t *testing.T) {
	dice := treeMaker(12)
	chains := 0
	for range 200000 {
		a, b, c := drawMarks(&dice, 2), drawMarks(&dice, 5), drawMarks(&dice, 12)
		valid := !slices.ContainsFunc(b, func(m impl.Mark) bool { return m.Tags < 0 || m.Tags > 15 })
		if got := impl.MarksIn(b, b); got != valid {
			t.Fatalf("MarksIn of %v and itself = %v", b, got)
		}
		if impl.MarksIn(a, b) && impl.MarksIn(b, c) {
			chains++
			if !impl.MarksIn(a, c) {
				t.Fatalf("%v is in %v, and that in %v", a, b, c)
			}
		}
	}
	if chains < 5000 {
		t.Error(chains)
	}
	for seed := range 100 {
		w := streams{wilds: wilds{dice: treeMaker(seed)}}
		marks := impl.Kinds(progOf(w.rules()...))
		checkMarksIn(t, marks, marks, true)
	}
}

func TestMarksInOfLongLists(t *testing.T) {
	const many = 100000
	var l []impl.Mark
	for i := range many {
		l = append(l, impl.Mark{Fn: strconv.Itoa(i / 3), S: "x", Kind: i % 3, Tags: 15})
	}
	reversed := slices.Clone(l)
	slices.Reverse(reversed)
	one := slices.Repeat([]impl.Mark{{S: strings.Repeat("x", 1000), Tags: 1}}, many)
	soon(t, "long lists", func() {
		checkMarksIn(t, l, reversed, true)
		checkMarksIn(t, append(l[:many:many], impl.Mark{}), reversed, false)
		checkMarksIn(t, one, one, true)
	})
}
