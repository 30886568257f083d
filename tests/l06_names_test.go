package tests

import (
	"math"
	"slices"
	"sort"
	"strconv"
	"strings"
	"testing"
	"time"

	"loop.example/g00700/impl"
)

var shapeWords = map[int]string{impl.ShNone: "none", impl.ShSingle: "single", impl.ShArray: "array", impl.ShBoth: "both"}

// nameText is the name, behind its function and a point if it has one, and its
// shape.
func nameText(n impl.Name) string {
	s := n.S + " " + shapeWords[n.Shape]
	if n.Fn != "" {
		s = n.Fn + "." + s
	}
	return s
}

func namesText(names []impl.Name) string {
	var texts []string
	for _, n := range names {
		texts = append(texts, nameText(n))
	}
	return strings.Join(texts, ", ")
}

func parsed(t *testing.T, src string) impl.Prog {
	t.Helper()
	p, at := impl.Parse(src)
	if at != -1 {
		t.Fatalf("Parse(%q) reports %d", src, at)
	}
	return p
}

// ref is what a name refers to.
type ref struct{ fn, s string }

// usage computes names and shapes from trees: it notes pairs of tied names, and
// gives both of each pair the uses of the other until nothing changes.
type usage struct {
	// The parameters of all functions with a name, and those of the first one.
	params, first map[string][]string
	shapes        map[ref]int
	ties          [][2]ref
	calls         map[string][]string
}

func usageOf(rules []rule) *usage {
	u := &usage{params: map[string][]string{}, first: map[string][]string{}, shapes: map[ref]int{}, calls: map[string][]string{}}
	for _, r := range rules {
		if r.when == impl.WnFunc {
			if _, twice := u.first[r.name]; !twice {
				u.first[r.name] = r.params
			}
			u.params[r.name] = append(u.params[r.name], r.params...)
		}
	}
	for fn, params := range u.params {
		for _, s := range params {
			u.shapes[ref{fn, s}] = 0
		}
	}
	for _, r := range rules {
		if r.cond != nil {
			u.visit("", r.cond, false)
		}
		u.visit(r.name, r.body, false)
	}
	for changed := true; changed; {
		changed = false
		for _, tie := range u.ties {
			if a, b := u.shapes[tie[0]], u.shapes[tie[1]]; a != b {
				u.shapes[tie[0]], u.shapes[tie[1]], changed = a|b, a|b, true
			}
		}
	}
	return u
}

func (u *usage) refer(fn, s string) ref {
	if slices.Contains(u.params[fn], s) {
		return ref{fn, s}
	}
	return ref{"", s}
}

func (u *usage) visit(fn string, x *tree, isArgument bool) {
	s, of := u.refer(fn, x.s), u.refer(fn, x.t)
	switch x.kind {
	case impl.NkVar:
		u.shapes[s] |= 0
		if !isArgument || s == (ref{"", "NR"}) || s == (ref{"", "NF"}) {
			u.shapes[s] |= impl.ShSingle
		}
	case impl.NkElem, impl.NkIn, impl.NkDelete:
		u.shapes[s] |= impl.ShArray
	case impl.NkForIn:
		u.shapes[s] |= impl.ShSingle
		u.shapes[of] |= impl.ShArray
	case impl.NkSplit:
		u.shapes[of] |= impl.ShArray
	case impl.NkCall:
		u.calls[fn] = append(u.calls[fn], x.s)
		for i := 0; i < len(x.kids) && i < len(u.first[x.s]); i++ {
			param := ref{x.s, u.first[x.s][i]}
			if x.kids[i].kind == impl.NkVar {
				u.ties = append(u.ties, [2]ref{u.refer(fn, x.kids[i].s), param})
			} else {
				u.shapes[param] |= impl.ShSingle
			}
		}
	}
	for _, kid := range x.kids {
		u.visit(fn, kid, x.kind == impl.NkCall)
	}
}

func (u *usage) names() []impl.Name {
	var names []impl.Name
	for r, shape := range u.shapes {
		names = append(names, impl.Name{Fn: r.fn, S: r.s, Shape: shape})
	}
	sort.Slice(names, func(i, j int) bool {
		if names[i].Fn != names[j].Fn {
			return names[i].Fn < names[j].Fn
		}
		return names[i].S < names[j].S
	})
	return names
}

// ascending returns the strings sorted, each once.
func ascending(l []string) []string {
	l = slices.Clone(l)
	slices.Sort(l)
	return slices.Compact(l)
}

func (u *usage) reached() []string {
	open, all := u.calls[""], map[string]bool{}
	for i := 0; i < len(open); i++ {
		if _, known := u.first[open[i]]; known && !all[open[i]] {
			all[open[i]] = true
			open = append(slices.Clone(open), u.calls[open[i]]...)
		}
	}
	var names []string
	for name := range all {
		names = append(names, name)
	}
	return ascending(names)
}

// functionsIn returns the names of the functions of a program, and one that is
// not among them.
func functionsIn(p impl.Prog) []string {
	names := []string{"no_function"}
	for _, item := range p.Items {
		if item.When == impl.WnFunc {
			names = append(names, item.Name)
		}
	}
	return ascending(names)
}

// checkModel compares all that chapter 6 says of a valid program with what is
// computed from its trees.
func checkModel(t *testing.T, p impl.Prog) {
	t.Helper()
	rules := rulesOf(p)
	u := usageOf(rules)
	names := impl.Names(p)
	if want := u.names(); !slices.Equal(names, want) {
		t.Errorf("%q: Names = %s; want %s", progText(rules), namesText(names), namesText(want))
	}
	for _, n := range u.names() {
		if got := impl.ShapeOf(p, n.Fn, n.S); got != n.Shape {
			t.Errorf("%q: ShapeOf(%q, %q) = %d; want %d", progText(rules), n.Fn, n.S, got, n.Shape)
		}
	}
	for _, fn := range append(functionsIn(p), "") {
		if got, want := impl.Calls(p, fn), ascending(u.calls[fn]); !slices.Equal(got, want) {
			t.Errorf("%q: Calls(%q) = %q; want %q", progText(rules), fn, got, want)
		}
		want := slices.IndexFunc(rules, func(r rule) bool { return r.when == impl.WnFunc && r.name == fn })
		if got := impl.FuncOf(p, fn); got != want {
			t.Errorf("%q: FuncOf(%q) = %d; want %d", progText(rules), fn, got, want)
		}
	}
	if got, want := impl.Reached(p), u.reached(); !slices.Equal(got, want) {
		t.Errorf("%q: Reached = %q; want %q", progText(rules), got, want)
	}
}

// checkNames compares the names of a source with their texts, and with the trees.
func checkNames(t *testing.T, src, want string) {
	t.Helper()
	p := parsed(t, src)
	if got := namesText(impl.Names(p)); got != want {
		t.Errorf("%q: Names = %s; want %s", src, got, want)
	}
	checkModel(t, p)
	checkPromise(t, p)
}

// checkPromise checks promise 6 by what the functions return: the order of the
// names, the shapes of what is passed to parameters, and that the reached
// functions are closed under calls.
func checkPromise(t *testing.T, p impl.Prog) {
	t.Helper()
	names := impl.Names(p)
	for i, n := range names {
		if shapeWords[n.Shape] == "" || i > 0 && (names[i-1].Fn > n.Fn || names[i-1].Fn == n.Fn && names[i-1].S >= n.S) {
			t.Errorf("%q: Names = %v", impl.ProgText(p), names)
		}
	}
	shapes := map[ref]int{}
	for _, n := range names {
		shapes[ref{n.Fn, n.S}] = n.Shape
	}
	for k, n := range p.L {
		if f := impl.FuncOf(p, n.S); n.Kind == impl.NkCall && f >= 0 {
			for i := range min(len(n.Kids), len(p.Items[f].Params)) {
				checkPassed(t, p, shapes, k, n.Kids[i], p.Items[f].Params[i])
			}
		}
	}
	reached := impl.Reached(p)
	for _, fn := range append([]string{""}, reached...) {
		if fn != "" && impl.FuncOf(p, fn) < 0 {
			t.Errorf("%q: Reached = %q", impl.ProgText(p), reached)
		}
		for _, called := range impl.Calls(p, fn) {
			if impl.FuncOf(p, called) >= 0 && !slices.Contains(reached, called) {
				t.Errorf("%q: Reached = %q, but %q is called by %q", impl.ProgText(p), reached, called, fn)
			}
		}
	}
}

// checkPassed checks that what call k passes by its kid has the parameter's shape.
func checkPassed(t *testing.T, p impl.Prog, shapes map[ref]int, k, kid int, param string) {
	t.Helper()
	shape, is := shapes[ref{p.L[k].S, param}]
	if !is {
		t.Errorf("%q: the parameter %q of %q is missing", impl.ProgText(p), param, p.L[k].S)
	}
	if p.L[kid].Kind != impl.NkVar {
		if shape&impl.ShSingle == 0 {
			t.Errorf("%q: %q of %q gets a value, but has the shape %d", impl.ProgText(p), param, p.L[k].S, shape)
		}
		return
	}
	passed, is := shapes[ref{impl.ScopeOf(p, kid), p.L[kid].S}]
	if !is {
		passed, is = shapes[ref{"", p.L[kid].S}]
	}
	if !is || passed != shape {
		t.Errorf("%q: %q of %q has the shape %d, and what is passed to it, %q, has %d", impl.ProgText(p), param, p.L[k].S, shape, p.L[kid].S, passed)
	}
}

// usesOf lists v and w with their shapes, as far as they have some.
func usesOf(fn, v, w string) []string {
	var texts []string
	if v != "" {
		texts = append(texts, fn+"v "+v)
	}
	if w != "" {
		texts = append(texts, fn+"w "+w)
	}
	return texts
}

func orNone(shape string) string {
	if shape == "" {
		return "none"
	}
	return shape
}

// checkUse puts a statement with the names v and w where statements can stand. Its
// uses of them are given, or nothing for a name that does not occur in it.
func checkUse(t *testing.T, statement, v, w string) {
	t.Helper()
	check := func(src string, want ...[]string) {
		t.Helper()
		checkNames(t, strings.ReplaceAll(src, "ST", statement), strings.Join(slices.Concat(want...), ", "))
	}
	globals, params := usesOf("", v, w), usesOf("f.", orNone(v), orNone(w))
	unused := usesOf("f.", "none", "none")
	check("{ ST }", globals)
	check("BEGIN { ST }", globals)
	check("END { ST }", globals)
	check("1 { { ST } }", globals)
	check("function f() { ST }", globals)
	check("function f(V, v_) { ST }", globals, []string{"f.V none", "f.v_ none"})
	check("function f(v, w) { ST }", params)
	check("function f(w, p, v) { if (1) ST }", []string{"f.p none"}, params)
	check("function f(v, w) { } { ST }", globals, unused)
	check("{ ST } function f(v, w) { }", globals, unused)
	check("function f(v, w) { } function g() { ST }", globals, unused)
	check("function g() { ST } function f(v, w) { }", globals, unused)
	check("function g() { } function f(v, w) { ST } BEGIN { }", params)
	check("{ ST } function f(v, w) { ST }", globals, params)
	check("function f(v, w) { ST } END { ST }", globals, params)
	check("function f(v) { ST }", usesOf("", "", w), usesOf("f.", orNone(v), ""))
	check("function f(w) { ST }", usesOf("", v, ""), usesOf("f.", "", orNone(w)))
}

// checkUseIn does so with an expression, which can also be a condition.
func checkUseIn(t *testing.T, e, v, w string) {
	t.Helper()
	checkUse(t, e+";", v, w)
	checkUse(t, "print 1, -("+e+");", v, w)
	globals := strings.Join(usesOf("", v, w), ", ")
	unused := strings.Join(usesOf("f.", "none", "none"), ", ")
	checkNames(t, e+" { }", globals)
	checkNames(t, "!("+e+") { print; }", globals)
	checkNames(t, e+" { } function f(v, w) { }", globals+", "+unused)
	checkNames(t, "function f(v, w) { } "+e+" { }", globals+", "+unused)
}

func TestNamesInEachNode(t *testing.T) {
	checkUseIn(t, "v", "single", "")
	checkUseIn(t, "w", "", "single")
	checkUseIn(t, "v[1]", "array", "")
	checkUseIn(t, "v[w]", "array", "single")
	checkUseIn(t, "(1 in v)", "array", "")
	checkUseIn(t, "(v in w)", "single", "array")
	checkUseIn(t, "split(1, v)", "array", "")
	checkUseIn(t, "split(v, w)", "single", "array")
	checkUseIn(t, "split(1, v, w)", "array", "single")
	checkUse(t, "delete v[1];", "array", "")
	checkUse(t, "delete v[w];", "array", "single")
	checkUse(t, "for (v in w) { }", "single", "array")
	checkUse(t, "for (w in v) next;", "array", "single")
}

// Whatever is around a variable, but for a call, uses it as a scalar.
func TestNamesOfVariablesInEachNode(t *testing.T) {
	for _, e := range []string{
		"v = w", "v += w", "$v = w", "$v += w", "A[v] = w", "A[1] += v w", "v ? w : 1", "1 ? v : w", "v || w", "v && w", "v ~ w", "v !~ w", "v < w", "v <= w", "v == w", "v != w", "v w",
		"v + w", "v - w", "v * w", "v / w", "v % w", "-v + !w", "$v $w", "length(v) length(w)", "substr(v, w)", "substr(w, 1, v)", "index(v, w)", "toupper(v) toupper(w)", "int(v) int(w)",
		"split(v, A, w)", "A[v] A[w]", "(v in A) + (w in A)", "((v)) ((w))", "f(-v, v w)", "f((v = w))", "f($v, A[w])", "f(g(h), v) + v w",
	} {
		for _, src := range []string{e + " { }", "{ " + e + "; }", "function f() { } function g(a) { } { print " + e + "; }"} {
			checkScalars(t, src)
		}
	}
	for _, s := range []string{
		"print v, w;", "printf v, w;", "if (v) w;", "if (v) { } else w;", "while (v) w;", "for (v; w; 1) { }", "for (1; 2; v) w;", "for (v in A) w;", "exit v w;", "return v w;", "delete A[v w];", "{ { v; } w; }",
	} {
		checkScalars(t, "{ "+s+" }")
		checkScalars(t, "function f() { "+s+" }")
	}
}

func checkScalars(t *testing.T, src string) {
	t.Helper()
	p := parsed(t, src)
	if impl.ShapeOf(p, "", "v") != impl.ShSingle || impl.ShapeOf(p, "", "w") != impl.ShSingle {
		t.Errorf("%q: Names = %s", src, namesText(impl.Names(p)))
	}
	checkModel(t, p)
}

// Strings, regular expressions and the names of calls and functions are no names.
func TestNamesThatDoNotOccur(t *testing.T) {
	checkNames(t, "", "")
	checkNames(t, "{ }", "")
	checkNames(t, "BEGIN { print 1, \"x\", /y/, $2; } END { next; exit 3; }", "")
	checkNames(t, "{ f(); g(1, h()); length; } function f() { }", "")
	checkNames(t, "function x() { x(); } { x(x()); }", "")
	checkNames(t, "function x() { x = 1; } { x(); }", "x single")
	checkNames(t, "function x(x) { x(x); }", "x.x none")
	checkNames(t, "function x(x) { return x; } { x[1] = x(2); }", "x array, x.x single")
	checkNames(t, "function f() { } { for (f in g) { } g(); } function g() { }", "f single, g array")
}

func TestNamesOfParameters(t *testing.T) {
	checkNames(t, "function f(a) { }", "f.a none")
	checkNames(t, "function f(b, a, c) { b[1]; }", "f.a none, f.b array, f.c none")
	checkNames(t, "function f(a) { a = 1; } { a[1] = 2; }", "a array, f.a single")
	checkNames(t, "{ a[1] = 2; } function f(a) { a = b; } { b[2]; }", "a array, b both, f.a single")
	checkNames(t, "function f(a) { g = a; } function g(b) { a[b]; }", "a array, g single, f.a single, g.b single")
	checkNames(t, "function f(a, b) { a; } function g(b, a) { a[1]; b; }", "f.a single, f.b none, g.a array, g.b single")
}

func TestNamesOfFunctionsWithTheSameName(t *testing.T) {
	checkNames(t, "function f(a) { a; } function f(a) { a[1]; }", "f.a both")
	checkNames(t, "function f(a) { a; } function f(a) { }", "f.a single")
	checkNames(t, "function f(a) { } function f(a) { a[1]; }", "f.a array")
	checkNames(t, "function f(a) { a; } function f(b) { b[1]; }", "f.a single, f.b array")
	checkNames(t, "function f(b, c) { } { a[1]; } function f(a, c) { a; } function f() { }", "a array, f.a single, f.b none, f.c none")
	// They count as one function, which has the parameters of all of them.
	checkNames(t, "function f(a) { b = 1; } function f(b) { a[1]; }", "f.a array, f.b single")
	checkNames(t, "function f() { b; } { b[1]; } function g() { b = 1; } function f(a, b) { }", "b both, f.a none, f.b single")
	// A call passes its arguments to the first one.
	checkNames(t, "function f(a) { } function f(b) { b[1]; } { f(x); }", "x none, f.a none, f.b array")
	checkNames(t, "{ f(x, y); } function f(a) { } function f(b, c) { b[1]; c[1]; }", "x none, y none, f.a none, f.b array, f.c array")
	checkNames(t, "{ f(x, y); } function f(a, b) { } function f(b, a) { b[1]; a; }", "x single, y array, f.a single, f.b array")
	checkNames(t, "function f(a) { } function f(b) { f(b); b[1]; }", "f.a array, f.b array")
	checkNames(t, "{ f(1); } function f(a) { } function f(b) { }", "f.a single, f.b none")
}

func TestNamesOfEqualParameters(t *testing.T) {
	checkNames(t, "function f(a, a) { }", "f.a none")
	checkNames(t, "function f(a, b, a) { a[1]; }", "f.a array, f.b none")
	checkNames(t, "function f(a, a) { } { f(x, y); x; y[1]; }", "x both, y both, f.a both")
	checkNames(t, "function f(a, b, a) { a[1]; } { f(1, 2, x); }", "x both, f.a both, f.b single")
	checkNames(t, "function f(a, a) { } { f(x, 1); f(y); }", "x single, y single, f.a single")
	checkNames(t, "function f(a, a) { a[1]; } { f(x, y, z); }", "x array, y array, z none, f.a array")
}

func TestShapesOfUses(t *testing.T) {
	scalars := []string{"v", "v = 1", "v += 1", "(v)", "h(v + 1)", "h(-v)", "$v", "A[v]"}
	arrays := []string{"v[1]", "v[1] = 2", "v[2] += 1", "(1 in v)", "split(1, v)", "h(v[1])", "h(1 in v)"}
	neither := []string{"h(v)", "h((v))", "h(1, v, v)", "h(h(v))"}
	check := func(want string, e ...string) {
		t.Helper()
		for _, src := range []string{"{ " + strings.Join(e, "; ") + "; }", strings.Join(e, " { } ") + " { }"} {
			p := parsed(t, src)
			if got := shapeWords[impl.ShapeOf(p, "", "v")]; got != want {
				t.Errorf("%q: %s; want %s", src, got, want)
			}
			checkModel(t, p)
		}
		p := parsed(t, "{ v; v[1]; } function f(v) { "+strings.Join(e, "; ")+"; }")
		if got := shapeWords[impl.ShapeOf(p, "f", "v")]; got != want || impl.ShapeOf(p, "", "v") != impl.ShBoth {
			t.Errorf("%q: %s; want %s", impl.ProgText(p), namesText(impl.Names(p)), want)
		}
		checkModel(t, p)
	}
	for _, n := range neither {
		check("none", n)
		for _, s := range scalars {
			check("single", n, s)
			check("single", s, n)
			for _, a := range arrays {
				check("both", s, n, a)
				check("both", a, s)
			}
		}
		for _, a := range arrays {
			check("array", a, n)
			check("array", n, a, n)
		}
	}
	for _, l := range [][]string{scalars, arrays, neither} {
		for _, x := range l {
			for _, y := range l {
				check(map[string]string{"v": "single", "v[1]": "array", "h(v)": "none"}[l[0]], x, y)
			}
		}
	}
	checkNames(t, "{ for (v in A) { } for (k in v) { } delete w[1]; w; }", "A array, k single, v both, w both")
	checkNames(t, "{ for (v in v) { } }", "v both")
	checkNames(t, "{ split(v, v); w[w]; x in x; delete y[y]; }", "v both, w both, x both, y both")
}

// The global NR and NF are used as scalars also as arguments.
func TestShapesOfCounters(t *testing.T) {
	for _, s := range []string{"NR", "NF"} {
		check := func(src, want string) {
			t.Helper()
			checkNames(t, strings.ReplaceAll(src, "NX", s), strings.ReplaceAll(want, "NX", s))
		}
		check("{ NX; }", "NX single")
		check("{ f(NX); }", "NX single")
		check("{ f(1, (NX)); } function f(a) { }", "NX single, f.a single")
		check("{ f(NX); } function f(a) { }", "NX single, f.a single")
		check("{ f(NX); f(x); } function f(a) { g(a); } function g(b) { }", "NX single, x single, f.a single, g.b single")
		check("{ f(NX); } function f(a) { a[1]; }", "NX both, f.a both")
		check("function f(a) { f(NX); }", "NX single, f.a single")
		check("NX[1] { }", "NX array")
		check("{ split(1, NX); }", "NX array")
		check("{ delete NX[1]; 1 in NX; for (k in NX) { } }", "NX array, k single")
		check("{ for (NX in A) { } }", "A array, NX single")
		check("{ NX[1]; f(NX); }", "NX both")
		check("function f(NX) { }", "f.NX none")
		check("function f(NX) { g(NX); }", "f.NX none")
		check("function f(NX) { f(NX); g(NX); } function g(a) { }", "f.NX none, g.a none")
		check("function f(NX) { NX[1]; f(NX); }", "f.NX array")
		check("function f(NX) { NX; }", "f.NX single")
		check("{ f(x); NX; } function f(NX) { }", "NX single, x none, f.NX none")
		check("{ f(x); } function f(NX) { g(); } function g() { h(NX); }", "NX single, x none, f.NX none")
		check("{ NX(NX); } function NX(a) { }", "NX single, NX.a single")
		check("function NX(NX) { NX(NX); }", "NX.NX none")
	}
	checkNames(t, "{ f(NR_); f(nr); f(NFx); f(N); f(NFR); f(_NF); f(Nf); }", "N none, NFR none, NFx none, NR_ none, Nf none, _NF none, nr none")
}

func TestShapesOfTiedNames(t *testing.T) {
	checkNames(t, "{ f(x); x = 1; } function f(a) { a[1] = 1; }", "x both, f.a both")
	checkNames(t, "{ f(x); } function f(a) { a[1] = 1; }", "x array, f.a array")
	checkNames(t, "function f(a) { } { f(x); x[1]; }", "x array, f.a array")
	checkNames(t, "{ f(x); } function f(a) { a = 1; }", "x single, f.a single")
	checkNames(t, "{ f(x); } function f(a) { }", "x none, f.a none")
	checkNames(t, "{ f(x); f(y); y[1]; } function f(a) { }", "x array, y array, f.a array")
	checkNames(t, "{ f(x); f(y); f(z); y; z[1]; } function f(a) { }", "x both, y both, z both, f.a both")
	checkNames(t, "{ f(x, y); } function f(a, b) { a; b[1]; }", "x single, y array, f.a single, f.b array")
	checkNames(t, "{ f(y, x); } function f(b, a) { a; b[1]; }", "x single, y array, f.a single, f.b array")
	checkNames(t, "f(x) { } BEGIN { f(y); } END { f(z); } function f(a) { b[1]; } { b; x[2]; }", "b both, x array, y array, z array, f.a array")
	// The parameter that a name refers to is tied, not the variable.
	checkNames(t, "{ x; } function f(a) { a[1]; } function g(x) { f(x); }", "x single, f.a array, g.x array")
	checkNames(t, "{ a; f(x); x[1]; } function f(a) { } function g(a) { }", "a single, x array, f.a array, g.a none")
	checkNames(t, "function f(a) { g(a, b); } function g(b, a) { b; a[1]; }", "b array, f.a single, g.a array, g.b single")
}

func TestShapesOfChains(t *testing.T) {
	checkNames(t, "{ f(x); } function f(a) { g(a); } function g(b) { h(b); } function h(c) { c[1]; }", "x array, f.a array, g.b array, h.c array")
	checkNames(t, "function h(c) { c[1]; } function g(b) { h(b); } function f(a) { g(a); } { f(x); }", "x array, f.a array, g.b array, h.c array")
	checkNames(t, "{ f(x); x; } function h(c) { } function f(a) { g(a); } function g(b) { h(b); }", "x single, f.a single, g.b single, h.c single")
	checkNames(t, "{ f(x); x[1]; } { f(y); y; } function f(a) { g(a); } function g(b) { }", "x both, y both, f.a both, g.b both")
	// Two names that are tied to one name in the middle of a chain are tied.
	checkNames(t, "function f(a) { h(a); } function g(b) { h(b); b[1]; } function h(c) { }", "f.a array, g.b array, h.c array")
	checkNames(t, "{ f(x); g(x); } function f(a) { a[1]; } function g(b) { b; }", "x both, f.a both, g.b both")
	checkNames(t, "{ f(x); g(x); g(y); f(z); } function f(a) { } function g(b) { } function h(c) { f(c); c; }", "x single, y single, z single, f.a single, g.b single, h.c single")
	// Calls that are never executed tie names, too.
	checkNames(t, "function f(a) { a[1]; } function g(b) { exit; f(b); } { next; g(x); }", "x array, f.a array, g.b array")
	// The functions f0 to f30 call the next one each.
	src, want := "{ f0(x); }", "x array"
	var fns []string
	for i := range 31 {
		fns = append(fns, "f"+strconv.Itoa(i))
		src += " function f" + strconv.Itoa(i) + "(a) { f" + strconv.Itoa(i+1) + "(a); }"
	}
	slices.Sort(fns)
	for _, fn := range fns {
		want += ", " + fn + ".a array"
	}
	checkNames(t, src+" { f20(y); } { f7(z); z[1]; }", strings.Replace(want, "x array", "x array, y array, z array", 1))
}

func TestShapesOfRecursion(t *testing.T) {
	checkNames(t, "function f(a) { f(a); }", "f.a none")
	checkNames(t, "function f(a, b) { f(b, a); a[1]; }", "f.a array, f.b array")
	checkNames(t, "function f(a, b) { f(b, a); a[1]; b; }", "f.a both, f.b both")
	checkNames(t, "function f(a, b, c) { f(b, c, a); } { f(x, y, z); z; }", "x single, y single, z single, f.a single, f.b single, f.c single")
	checkNames(t, "function f(a, b, c) { f(b, b); b; c[1]; }", "f.a single, f.b single, f.c array")
	checkNames(t, "function f(a) { g(a); } function g(b) { f(b); b[1]; }", "f.a array, g.b array")
	checkNames(t, "function f(a) { g(a); } function g(b) { h(b); } function h(c) { f(c); } { h(x); x; }", "x single, f.a single, g.b single, h.c single")
	checkNames(t, "function f(a, b) { g(a, b); } function g(a, b) { f(b, a); a[1]; } { g(x, y); }", "x array, y array, f.a array, f.b array, g.a array, g.b array")
	checkNames(t, "function f(a) { f(x); a[1]; }", "x array, f.a array")
}

func TestShapesOfCallsThatDoNotFit(t *testing.T) {
	// Too many arguments, or too few.
	checkNames(t, "{ f(x, y); } function f(a) { a[1]; }", "x array, y none, f.a array")
	checkNames(t, "{ f(x, y, 1, z); } function f() { }", "x none, y none, z none")
	checkNames(t, "{ f(x, y); f(y, x[1]); } function f(a) { a; }", "x both, y both, f.a both")
	checkNames(t, "{ f(x, y[1]); f(z, y, -u); } function f(a) { a; }", "u single, x single, y array, z single, f.a single")
	checkNames(t, "{ f(x); } function f(a, b) { a[1]; b; }", "x array, f.a array, f.b single")
	checkNames(t, "{ f(); } function f(a, b) { }", "f.a none, f.b none")
	checkNames(t, "{ f(1); } function f(a, b) { }", "f.a single, f.b none")
	// An unknown function uses its arguments in no way.
	checkNames(t, "{ f(x); }", "x none")
	checkNames(t, "{ f(x, -y, 1); } function g(a, b) { }", "x none, y single, g.a none, g.b none")
	checkNames(t, "{ f(x); f(y); y[1]; }", "x none, y array")
	checkNames(t, "{ F(x); f_(x); ff(x); } function f(a) { a; }", "x none, f.a single")
	checkNames(t, "{ a(x); } function f(a) { a(a); b = a; }", "b single, x none, f.a single")
	// A function that is defined twice.
	checkNames(t, "{ f(x); } function f(a) { } function f(a) { a[1]; }", "x array, f.a array")
	checkNames(t, "{ f(x, y); } function f(a) { } function f(b, c) { b; c; }", "x none, y none, f.a none, f.b single, f.c single")
	checkNames(t, "function f(a) { } { f(x); x; } function f(b) { b[1]; f(b); }", "x both, f.a both, f.b both")
}

func TestShapesOfArguments(t *testing.T) {
	// The same name as several arguments.
	checkNames(t, "{ f(x, x); } function f(a, b) { a[1]; }", "x array, f.a array, f.b array")
	checkNames(t, "{ f(x, x); } function f(a, b) { a[1]; b; }", "x both, f.a both, f.b both")
	checkNames(t, "{ f(x, 1, x); } function f(a, b, c) { c[1]; }", "x array, f.a array, f.b single, f.c array")
	checkNames(t, "function f(a, b) { g(a, a, b); } function g(c, d, e) { d[1]; e; }", "f.a array, f.b single, g.c array, g.d array, g.e single")
	// Parentheses change nothing.
	checkNames(t, "{ f((x)); } function f(a) { a[1]; }", "x array, f.a array")
	checkNames(t, "{ f(((x)), (y)); } function f(a, b) { }", "x none, y none, f.a none, f.b none")
	// What is not a variable is a value.
	for _, e := range []string{
		"1", "\"s\"", "/r/", "$x", "A[x]", "x in A", "x = 1", "x += 1", "x ? 1 : 2", "x || 1", "x && 1", "!x", "x ~ 1", "x < 1", "x 1", "x + 1", "-x", "-(x)", "g(x) x", "length(x)", "substr(x, 1)",
		"index(x, 1)", "split(x, A)", "toupper(x)", "int(x)", "length", "f(x)", "g(x)", "g()", "f(2)",
	} {
		p := parsed(t, "{ f("+e+"); } function f(a) { }")
		if got := impl.ShapeOf(p, "f", "a"); got != impl.ShSingle {
			t.Errorf("%q: %d", e, got)
		}
		checkModel(t, p)
		p = parsed(t, "{ f(y, "+e+"); } function f(a, b, c) { a[1]; b[1]; c[1]; }")
		if a, b, c := impl.ShapeOf(p, "f", "a"), impl.ShapeOf(p, "f", "b"), impl.ShapeOf(p, "f", "c"); a&impl.ShArray == 0 || b != impl.ShBoth || c != impl.ShArray {
			t.Errorf("%q: %d, %d, %d", e, a, b, c)
		}
		checkModel(t, p)
	}
	checkNames(t, "{ f(x[1]); } function f(a) { }", "x array, f.a single")
	checkNames(t, "{ f(x = y); } function f(a) { }", "x single, y single, f.a single")
	// Calls within the arguments of calls.
	checkNames(t, "{ f(g(x)); } function f(a) { } function g(b) { b[1]; }", "x array, f.a single, g.b array")
	checkNames(t, "{ f(f(f(x))); } function f(a) { }", "x single, f.a single")
	checkNames(t, "{ f(x, f(y, f(z))); } function f(a, b) { }", "x none, y none, z none, f.a none, f.b single")
	checkNames(t, "{ f(x, f(y, f(z))); z[1]; } function f(a, b) { }", "x array, y array, z array, f.a array, f.b single")
	checkNames(t, "{ h(g(x), y); h(z, h(g(u), v)); } function g(b) { b[1]; }", "u array, v none, x array, y none, z none, g.b array")
}

func TestOrderOfNames(t *testing.T) {
	checkNames(t, "{ b; a; c; aa; B; _; A; Z; z9; z10; a_; a0; aA; }", "A single, B single, Z single, _ single, a single, a0 single, aA single, a_ single, aa single, b single, c single, z10 single, z9 single")
	checkNames(t, "function ff(z) { } function f(a, c, b) { } function f_(a) { } function F(z) { } function fF(a) { } function f0(a) { } function e(z) { } { z; a; } function _(a) { } function FF(a) { }",
		"a single, z single, F.z none, FF.a none, _.a none, e.z none, f.a none, f.b none, f.c none, f0.a none, fF.a none, f_.a none, ff.z none")
	checkNames(t, "function ab(a) { } function a(bb, b, a, B, a) { } { ba(b); ab; a[1]; }", "a array, ab single, b none, a.B none, a.a none, a.b none, a.bb none, ab.a none")
	long := strings.Repeat("n", 39)
	checkNames(t, "function "+long+"n(x) { } function "+long+"m(x) { } function "+long+"(x) { } { "+long+"z + "+long+"Z + "+long+"; }",
		long+" single, "+long+"Z single, "+long+"z single, "+long+".x none, "+long+"m.x none, "+long+"n.x none")
}

func TestNamesInNoChangingOrder(t *testing.T) {
	p := parsed(t, "{ f(x, y); g(u, v); z[1]; w; h(i, j); } function f(a, b) { g(a, c); a[1]; } function g(a, b) { b; } function h(a, b) { h(b, a); k(l, m); } function k(a, b) { a; }")
	names, reached := impl.Names(p), impl.Reached(p)
	for range 200 {
		if !slices.Equal(impl.Names(p), names) || !slices.Equal(impl.Reached(p), reached) {
			t.Fatalf("%s; %s", namesText(names), namesText(impl.Names(p)))
		}
	}
}

func TestShapeOf(t *testing.T) {
	p := parsed(t, "{ x; A[1]; g(y); } function f(a, b) { b; c = b; } function g(a) { }")
	for _, n := range []impl.Name{
		{S: "A", Shape: impl.ShArray}, {S: "c", Shape: impl.ShSingle}, {S: "x", Shape: impl.ShSingle}, {S: "y", Shape: impl.ShNone}, {Fn: "f", S: "a", Shape: impl.ShNone}, {Fn: "f", S: "b", Shape: impl.ShSingle}, {Fn: "g", S: "a"},
		{S: "a", Shape: -1}, {S: "b", Shape: -1}, {S: "f", Shape: -1}, {S: "g", Shape: -1}, {S: "", Shape: -1}, {S: "X", Shape: -1}, {S: "xx", Shape: -1}, {S: "x ", Shape: -1}, {S: "NR", Shape: -1}, {S: "if", Shape: -1},
		{S: "z", Shape: -1}, {S: "\x00", Shape: -1}, {S: "\xff", Shape: -1}, {S: "f.a", Shape: -1}, {S: strings.Repeat("x", 100000), Shape: -1},
		{Fn: "f", S: "x", Shape: -1}, {Fn: "f", S: "c", Shape: -1}, {Fn: "f", S: "", Shape: -1}, {Fn: "f", S: "A", Shape: -1}, {Fn: "g", S: "b", Shape: -1}, {Fn: "h", S: "a", Shape: -1}, {Fn: "x", S: "x", Shape: -1},
		{Fn: "F", S: "a", Shape: -1}, {Fn: "ff", S: "a", Shape: -1}, {Fn: "a", S: "f", Shape: -1}, {Fn: "f ", S: "a", Shape: -1}, {Fn: " ", S: "x", Shape: -1}, {Fn: strings.Repeat("f", 100000), S: "a", Shape: -1},
	} {
		if got := impl.ShapeOf(p, n.Fn, n.S); got != n.Shape {
			t.Errorf("ShapeOf(%q, %q) = %d; want %d", n.Fn, n.S, got, n.Shape)
		}
	}
	if got := impl.ShapeOf(impl.Prog{}, "", ""); got != -1 {
		t.Error(got)
	}
}

func TestFuncOf(t *testing.T) {
	p := parsed(t, "function g() { } { f(); } function f(a) { } BEGIN { x; } function h() { f(); } function f(b) { } function g() { } function F() { } END { }")
	for name, want := range map[string]int{
		"g": 0, "f": 2, "h": 4, "F": 7, "": -1, "a": -1, "b": -1, "x": -1, "ff": -1, "H": -1, "f ": -1, "f(": -1, "\x00": -1, "\xff": -1, "function": -1, "BEGIN": -1, "END": -1, strings.Repeat("f", 100000): -1,
	} {
		if got := impl.FuncOf(p, name); got != want {
			t.Errorf("FuncOf(%q) = %d; want %d", name, got, want)
		}
	}
	for _, src := range []string{"", "{ f(); }", "BEGIN { } END { } f { } { }"} {
		for _, name := range []string{"", "f", "BEGIN"} {
			if got := impl.FuncOf(parsed(t, src), name); got != -1 {
				t.Errorf("%q: FuncOf(%q) = %d", src, name, got)
			}
		}
	}
	if got := impl.FuncOf(parsed(t, "function f() { }"), "f"); got != 0 {
		t.Error(got)
	}
}

// wantScopes returns the functions of the nodes, from the sizes of the trees.
func wantScopes(rules []rule) []string {
	var scopes []string
	var size func(x *tree) int
	size = func(x *tree) int {
		n := 1
		for _, kid := range x.kids {
			n += size(kid)
		}
		return n
	}
	for _, r := range rules {
		if r.cond != nil {
			scopes = append(scopes, slices.Repeat([]string{""}, size(r.cond))...)
		}
		scopes = append(scopes, slices.Repeat([]string{r.name}, size(r.body))...)
	}
	return scopes
}

func checkScopes(t *testing.T, p impl.Prog) {
	t.Helper()
	var scopes []string
	for k := range p.L {
		scopes = append(scopes, impl.ScopeOf(p, k))
	}
	if want := wantScopes(rulesOf(p)); !slices.Equal(scopes, want) {
		t.Errorf("%q: ScopeOf = %q; want %q", impl.ProgText(p), scopes, want)
	}
	for _, k := range []int{math.MinInt, -mostFar, -2, -1, len(p.L), len(p.L) + 1, mostFar, math.MaxInt} {
		if got := impl.ScopeOf(p, k); got != "" {
			t.Errorf("%q: ScopeOf(%d) = %q", impl.ProgText(p), k, got)
		}
	}
}

func TestScopeOf(t *testing.T) {
	for _, src := range []string{
		"", "{ }", "{ x; }", "x { }", "function f() { }", "function f(a) { a = 1; }", "function f() { } function g() { } function f() { }", "function f() { x; } function g() { y; } function f() { z; }",
		"{ x; } function f() { y; } { z; }", "function f() { y; } x { z; } function g() { }", "BEGIN { x; } y { z; } function f(a) { if (a) { print; } else f(a - 1); } END { x; } function g() { return f(1); } f(2) { }",
		"{ } { } function f() { } { } function g() { } x { }", "function f() { } x y { } /r/ { } function g() { { { x; } } }", "function length_() { } function _() { x; }",
	} {
		checkScopes(t, parsed(t, src))
	}
	p := parsed(t, "x { y; } function f(a) { z; } function g() { } { }")
	want := []string{"", "", "", "", "f", "f", "f", "g", ""}
	for k := range want {
		if got := impl.ScopeOf(p, k); got != want[k] || len(p.L) != len(want) {
			t.Errorf("ScopeOf(%d) = %q; want %q", k, got, want[k])
		}
	}
}

func checkCalls(t *testing.T, src, fn, want string) {
	t.Helper()
	p := parsed(t, src)
	if got := strings.Join(impl.Calls(p, fn), " "); got != want {
		t.Errorf("%q: Calls(%q) = %q; want %q", src, fn, got, want)
	}
	checkModel(t, p)
}

func TestCalls(t *testing.T) {
	checkCalls(t, "", "", "")
	checkCalls(t, "{ }", "", "")
	checkCalls(t, "{ f(); } function f() { }", "", "f")
	checkCalls(t, "{ f(); } function f() { }", "f", "")
	checkCalls(t, "{ f(); } function f() { }", "g", "")
	checkCalls(t, "{ g(); f(); g(); F(); f_(); ff(); f(); }", "", "F f f_ ff g")
	checkCalls(t, "f() { }", "", "f")
	checkCalls(t, "x + f(g(1)) { h(); } END { a(); } BEGIN { b(); } function k() { c(); }", "", "a b f g h")
	checkCalls(t, "x + f(g(1)) { h(); } END { a(); } BEGIN { b(); } function k() { c(); }", "k", "c")
	checkCalls(t, "function f() { g(); } function g() { h(); } function f() { i(); f(); } function f() { g(); }", "f", "f g i")
	checkCalls(t, "function f() { g(); } function g() { h(); } function f() { i(); f(); } function f() { g(); }", "g", "h")
	checkCalls(t, "function f() { g(); } function g() { h(); } function f() { i(); f(); } function f() { g(); }", "", "")
	checkCalls(t, "function f() { g(); } f() { h(); } function g() { } k() { }", "", "f h k")
	checkCalls(t, "function f() { f(); }", "f", "f")
	checkCalls(t, "{ f(); } function g() { h(); }", "f", "")
	checkCalls(t, "{ f(f(), g(h(i()))); }", "", "f g h i")
	checkCalls(t, "{ if (a()) b(); else c(); while (d()) e(); for (f(); g(); h()) i(); for (k in A) j(); print k(), -l(); exit m(); return n(); delete A[o()]; $p() = q(); A[r()] += s(); printf t(); { { u(); } } }",
		"", "a b c d e f g h i j k l m n o p q r s t u")
	checkCalls(t, "{ length(x); substr(x, 1); x; A[1]; split(x, A); \"f()\"; /f()/; } # f()", "", "")
	checkCalls(t, "function x(x) { x; }", "x", "")
	p := parsed(t, "{ f(); } function f() { g(); }")
	for _, fn := range []string{"\x00", " ", "F", "ff", "function", "\xff", strings.Repeat("f", 100000)} {
		if got := impl.Calls(p, fn); len(got) > 0 {
			t.Errorf("Calls(%q) = %q", fn, got)
		}
	}
}

func checkReached(t *testing.T, src, want string) {
	t.Helper()
	p := parsed(t, src)
	if got := strings.Join(impl.Reached(p), " "); got != want {
		t.Errorf("%q: Reached = %q; want %q", src, got, want)
	}
	checkModel(t, p)
	checkPromise(t, p)
}

func TestReached(t *testing.T) {
	checkReached(t, "", "")
	checkReached(t, "{ f(); }", "")
	checkReached(t, "function f() { }", "")
	checkReached(t, "{ f(); } function f() { }", "f")
	checkReached(t, "function f() { } { f(); f(); }", "f")
	checkReached(t, "{ h(); b(); g(); a(); } function a() { } function g() { } function b() { } function c() { }", "a b g")
	checkReached(t, "f() { } function f() { }", "f")
	checkReached(t, "BEGIN { f(); } END { g(); } function f() { } function g() { } function h() { }", "f g")
	checkReached(t, "{ f(); } function f() { g(); } function g() { h(); } function h() { i(); }", "f g h")
	checkReached(t, "function h() { } function g() { h(); } function f() { g(); } { f(); }", "f g h")
	checkReached(t, "{ c(); } function c() { a(); } function a() { b(); } function b() { }", "a b c")
	// Recursion.
	checkReached(t, "{ f(); } function f() { f(); }", "f")
	checkReached(t, "function f() { f(); }", "")
	checkReached(t, "{ f(); } function f() { g(); } function g() { f(); } function h() { h(); f(); }", "f g")
	checkReached(t, "function f() { g(); } function g() { f(); } { h(); } function h() { h(); }", "h")
	// Functions that are only called by functions that are not reached.
	checkReached(t, "{ f(); } function f() { } function g() { h(); f(); } function h() { }", "f")
	checkReached(t, "{ } function g() { h(); } function h() { }", "")
	// Calls of unknown functions lead nowhere.
	checkReached(t, "{ x(); f(); } function f() { y(); g(); } function g() { } function z() { h(); } function h() { }", "f g")
	// Of functions with the same name all calls count.
	checkReached(t, "{ f(); } function f() { g(); } function f() { h(); } function g() { } function h() { } function i() { }", "f g h")
	checkReached(t, "{ f(); } function f() { } function f() { }", "f")
	// Statements that are never executed count, too, and arguments of calls.
	checkReached(t, "{ exit; f(); } function f() { return; g(); } function g() { }", "f g")
	checkReached(t, "{ x(f(g(1))); } function f(a) { } function g(a) { }", "f g")
	checkReached(t, "{ F(); ff(); f_(); } function f() { }", "")
	src, want := "function f250() { }", []string{"f250"}
	for i := range 100 {
		src += " function f" + strconv.Itoa(150+i) + "() { f" + strconv.Itoa(151+i) + "(); }"
		want = append(want, "f"+strconv.Itoa(150+i))
	}
	checkReached(t, src+" { f150(); }", strings.Join(ascending(want), " "))
	checkReached(t, src+" { f240(); }", strings.Join(ascending(want)[90:], " "))
	checkReached(t, src, "")
}

// knots makes programs in which many names are tied.
type knots struct{ wilds }

func (w *knots) name() string { return w.pick("a", "b", "c", "x", "y", "A", "NR", "NF", "f") }
func (w *knots) fn() string   { return w.pick("f", "g", "h", "k", "ff", "no") }

func (w *knots) expression(deep int) *tree {
	if deep <= 0 {
		return vari(w.name())
	}
	e := func() *tree { return w.expression(w.dice.below(deep)) }
	switch w.dice.below(14) {
	case 0:
		return named(impl.NkElem, w.name(), "", e())
	case 1:
		return named(impl.NkIn, w.name(), "", e())
	case 2:
		return named(impl.NkSplit, "", w.name(), e())
	case 3:
		return of(impl.NkSet, vari(w.name()), e())
	case 4:
		return of(impl.NkCat, e(), e())
	case 5:
		return num(1)
	case 6:
		return vari(w.name())
	}
	call := named(impl.NkCall, w.fn(), "")
	for range w.dice.below(4) {
		if w.dice.below(4) == 0 {
			call.kids = append(call.kids, e())
		} else {
			call.kids = append(call.kids, vari(w.name()))
		}
	}
	return call
}

func (w *knots) statement(deep int) *tree {
	switch w.dice.below(12) {
	case 0:
		return named(impl.NkForIn, w.name(), w.name(), block())
	case 1:
		return named(impl.NkDelete, w.name(), "", w.expression(1))
	case 2:
		return of(impl.NkWhile, w.expression(1), do(w.expression(deep)))
	}
	return do(w.expression(deep))
}

func (w *knots) rules() []rule {
	var rules []rule
	for range 1 + w.dice.below(7) {
		b := block()
		for range w.dice.below(4) {
			b.kids = append(b.kids, w.statement(3))
		}
		switch w.dice.below(8) {
		case 0:
			rules = append(rules, begin(b))
		case 1:
			rules = append(rules, rule{when: impl.WnAll, body: b})
		case 2:
			rules = append(rules, when(w.expression(3), b))
		default:
			var params []string
			for range w.dice.below(4) {
				params = append(params, w.name())
			}
			rules = append(rules, function(w.fn(), params, b))
		}
	}
	return rules
}

func TestNamesOfMadePrograms(t *testing.T) {
	t.Parallel()
	shapes := map[int]int{}
	tied, reached := 0, 0
	for seed := range 3000 {
		w := knots{wilds{dice: treeMaker(seed)}}
		rules := w.rules()
		p := parsed(t, progText(rules))
		checkModel(t, p)
		checkPromise(t, p)
		checkScopes(t, p)
		for _, n := range impl.Names(p) {
			shapes[n.Shape]++
		}
		tied += len(usageOf(rules).ties)
		reached += len(impl.Reached(p))
	}
	for shape := impl.ShNone; shape <= impl.ShBoth; shape++ {
		if shapes[shape] < 1000 {
			t.Error(shapes)
		}
	}
	if tied < 3000 || reached < 1000 {
		t.Error(tied, reached)
	}
}

func TestNamesOfMadeSources(t *testing.T) {
	t.Parallel()
	count := 0
	for seed := range 1000 {
		w := wilds{dice: treeMaker(seed)}
		src, _ := spareText(seed, true, w.rules())
		if p, at := impl.Parse(src); at == -1 && len(p.L) < 300 {
			count++
			checkModel(t, p)
			checkPromise(t, p)
			checkScopes(t, p)
		}
	}
	if count < 700 {
		t.Error(count)
	}
}

// checkUnnamed checks what is returned for a program that is not valid.
func checkUnnamed(t *testing.T, p impl.Prog) {
	t.Helper()
	names := []string{"", "f", "g", "x", "a"}
	for i := 0; i < len(p.Items) && i < 4; i++ {
		names = append(names, p.Items[i].Name)
	}
	for k := 0; k < len(p.L) && k < 6; k++ {
		names = append(names, p.L[k].S)
	}
	for _, s := range ascending(names) {
		if i, calls := impl.FuncOf(p, s), impl.Calls(p, s); i != -1 || len(calls) > 0 {
			t.Errorf("FuncOf(%v, %q) = %d; Calls = %q", p, s, i, calls)
		}
		if x, y := impl.ShapeOf(p, "", s), impl.ShapeOf(p, "f", s); x != -1 || y != -1 {
			t.Errorf("ShapeOf(%v, %q) = %d; as a parameter of f %d", p, s, x, y)
		}
	}
	for _, k := range []int{math.MinInt, -1, 0, 1, len(p.L) / 2, len(p.L) - 1, len(p.L), math.MaxInt} {
		if s := impl.ScopeOf(p, k); s != "" {
			t.Errorf("ScopeOf(%v, %d) = %q", p, k, s)
		}
	}
	if l, reached := impl.Names(p), impl.Reached(p); len(l) > 0 || len(reached) > 0 {
		t.Errorf("Names(%v) = %v; Reached = %q", p, l, reached)
	}
}

func TestNamesOfChangedPrograms(t *testing.T) {
	t.Parallel()
	valid, not := 0, 0
	check := func(p impl.Prog) {
		if impl.ProgOk(p) {
			valid++
			checkModel(t, p)
		} else {
			not++
			checkUnnamed(t, p)
		}
	}
	for _, src := range []string{
		"{ f(x, 1); } function f(a, b) { a[b]; }", "function f(a) { g(a); } function g(f) { f[1]; } f(x) { }", "function f(f) { for (x in f) split(x, a); }", "x in g { delete f[a]; f(); } function f(a, a) { a; }",
		"function g(x) { } function g(a) { x = g(a); } BEGIN { g(NR); } END { f; }", "", "{ }", "function f() { }",
	} {
		p := parsed(t, src)
		check(p)
		for k := range p.L {
			eachNodeChange(p, k, check)
		}
		for i := range p.Items {
			eachItemChange(p, i, check)
		}
		eachOrderChange(p, check)
	}
	dice := treeMaker(6)
	for range 3000 {
		check(randomProg(&dice))
	}
	if valid < 500 || not < 5000 {
		t.Error(valid, not)
	}
}

func TestNamesOfChosenPrograms(t *testing.T) {
	x := impl.Node{Kind: impl.NkVar, S: "x"}
	function := []impl.Item{{When: impl.WnFunc, Name: "f", Params: []string{"a"}, Cond: -1, Body: 1}}
	checkUnnamed(t, sampleProg())
	checkUnnamed(t, impl.Prog{L: []impl.Node{x}})
	checkUnnamed(t, impl.Prog{L: []impl.Node{{Kind: impl.NkBlock}}})
	checkUnnamed(t, impl.Prog{Items: function})
	checkUnnamed(t, impl.Prog{L: []impl.Node{{Kind: impl.NkBlock}, {Kind: impl.NkBlock}}, Items: function})
	checkUnnamed(t, impl.Prog{L: []impl.Node{x, {Kind: impl.NkBlock, Kids: []int{0}}}, Items: function})
	checkUnnamed(t, impl.Prog{L: []impl.Node{{Kind: impl.NkCall, S: "f", Kids: []int{1}}, {Kind: impl.NkBlock, Kids: []int{0}}}, Items: function})
	checkUnnamed(t, impl.Prog{L: []impl.Node{{Kind: impl.NkCall, S: "f", Kids: []int{-1, 7, math.MaxInt, math.MinInt}}, {Kind: impl.NkBlock, Kids: []int{0}}}, Items: function})
	checkUnnamed(t, impl.Prog{L: []impl.Node{{Kind: impl.NkCall, S: "f", Kids: []int{0}}, {Kind: impl.NkBlock, Kids: []int{0, 0}}}, Items: function})
	checkUnnamed(t, impl.Prog{L: []impl.Node{{Kind: -1, S: "f"}, {Kind: math.MaxInt}}, Items: function})
	// Everything is well but for one number, name or length.
	p := parsed(t, "{ f(x, 1); g(y); } function f(a, b) { a[b]; f(a); } function g(a) { }")
	checkModel(t, p)
	for k, n := range p.L {
		if n.Kind == impl.NkNum {
			q := copyProg(p)
			q.L[k].N = -1
			checkUnnamed(t, q)
		}
	}
	for _, s := range []string{"", "if", "a b", "\xff", strings.Repeat("n", 41), strings.Repeat("n", 5000)} {
		q := copyProg(p)
		q.Items[1].Params[0] = s
		checkUnnamed(t, q)
		q = copyProg(p)
		q.Items[2].Name = s
		checkUnnamed(t, q)
	}
	long := parsed(t, "function f(a) { f(x); } "+strings.Repeat("{ x = \"123456789012345678901234567890\"; } ", 90))
	checkModel(t, long)
	long.L[len(long.L)-4].S += strings.Repeat("1", impl.MaxSrc)
	checkUnnamed(t, long)
}

// soon runs something that must not take long, whatever the program.
func soon(t *testing.T, name string, run func()) {
	t.Helper()
	start := time.Now()
	run()
	if past := time.Since(start); past > 10*time.Second {
		t.Errorf("%s: takes %v", name, past)
	}
}

func TestNamesOfLargePrograms(t *testing.T) {
	t.Parallel()
	const many = 300000
	long := strings.Repeat("s", 1<<20)
	ascending := make([]int, many)
	for i := range ascending {
		ascending[i] = i
	}
	for kind := -1; kind <= impl.NkBlock+1; kind++ {
		p := impl.Prog{L: slices.Repeat([]impl.Node{{Kind: kind, S: "f", T: "f", Kids: ascending[:1]}}, many), Items: []impl.Item{{When: impl.WnFunc, Name: "f", Params: []string{"a"}, Cond: -1, Body: many - 1}}}
		soon(t, "many nodes", func() { checkUnnamed(t, p) })
		p.L = slices.Repeat([]impl.Node{{Kind: kind, S: long, T: long, Kids: ascending}}, 500)
		soon(t, "long strings and many kids", func() { checkUnnamed(t, p) })
	}
	items := slices.Repeat([]impl.Item{{When: impl.WnFunc, Name: "f", Params: []string{"f"}, Cond: -1}}, many)
	soon(t, "many functions", func() { checkUnnamed(t, impl.Prog{L: []impl.Node{{Kind: impl.NkBlock}}, Items: items}) })
	soon(t, "many parameters", func() {
		checkUnnamed(t, impl.Prog{L: []impl.Node{{Kind: impl.NkBlock}}, Items: []impl.Item{{When: impl.WnFunc, Name: "f", Params: slices.Repeat([]string{"f"}, many), Cond: -1}}})
	})
}

// TestNamesOfLargestPrograms measures valid programs that are about as large as
// possible.
func TestNamesOfLargestPrograms(t *testing.T) {
	t.Parallel()
	var params []string
	var arguments []*tree
	for i := range 260 {
		params = append(params, "a"+strconv.Itoa(100+i))
		arguments = append(arguments, vari(params[i]))
	}
	slices.Reverse(arguments)
	call := do(named(impl.NkCall, "f", "", arguments...))
	checkLarge(t, "a wide call", function("f", params, block(call, do(named(impl.NkElem, "a300", "", num(1))))))
	chain := []rule{always(do(named(impl.NkCall, "f0", "", named(impl.NkElem, "a", "", num(1)))))}
	for i := range 100 {
		next := named(impl.NkCall, "f"+strconv.Itoa(i+1), "", vari("a"))
		chain = append(chain, function("f"+strconv.Itoa(i), []string{"a"}, block(do(next))))
	}
	checkLarge(t, "a chain", chain...)
	checkLarge(t, "many rules", slices.Repeat([]rule{always()}, impl.MaxNodes)...)
	checkLarge(t, "many functions", slices.Repeat([]rule{function("f", nil, block())}, impl.MaxSrc/len("function f() { }\n"))...)
	checkLarge(t, "many statements", always(slices.Repeat([]*tree{do(vari("x"))}, 399)...))
	call = do(named(impl.NkCall, "f", "", slices.Repeat([]*tree{vari("x")}, 790)...))
	checkLarge(t, "many arguments", function("f", slices.Repeat([]string{"a"}, 500), block(call)))
	checkLarge(t, "many parameters", function("f", slices.Repeat([]string{"a", "b"}, 650), block(do(named(impl.NkCall, "f", "", vari("x"), vari("y"))))))
}

func checkLarge(t *testing.T, name string, rules ...rule) {
	t.Helper()
	p := progOf(rules...)
	if !impl.ProgOk(p) {
		t.Errorf("%s: %d bytes, %d nodes", name, len(progText(rules)), len(p.L))
	}
	soon(t, name, func() {
		checkModel(t, p)
		impl.ScopeOf(p, len(p.L)-1)
	})
}

func TestNamesLeaveArgumentsUnchanged(t *testing.T) {
	progs := []impl.Prog{{}, sampleProg()}
	for seed := range 200 {
		w := knots{wilds{dice: treeMaker(seed)}}
		progs = append(progs, progOf(w.rules()...))
	}
	dice := treeMaker(4)
	for range 500 {
		progs = append(progs, randomProg(&dice))
	}
	for _, p := range progs {
		q, same := spoiled(p)
		for _, s := range []string{"", "f", "g", "a"} {
			impl.FuncOf(q, s)
			impl.ShapeOf(q, s, "a")
			impl.Calls(q, s)
		}
		for k := -1; k <= len(q.L); k++ {
			impl.ScopeOf(q, k)
		}
		impl.Names(q)
		impl.Reached(q)
		if !same() {
			t.Errorf("%v is changed to %v", p, q)
		}
	}
}

func TestNamesAreNew(t *testing.T) {
	p := parsed(t, "{ f(x, y); g(); } function f(a, b) { g(a); f(); } function g(c) { c[1]; }")
	kept := copyProg(p)
	names, calls, reached := impl.Names(p), impl.Calls(p, ""), impl.Reached(p)
	wanted := slices.Clone(names)
	clear(names[:cap(names)])
	clear(calls[:cap(calls)])
	clear(reached[:cap(reached)])
	if !equalProgs(p, kept) {
		t.Errorf("a result shares memory with the program: %v", p)
	}
	if !slices.Equal(impl.Names(p), wanted) || !slices.Equal(impl.Calls(p, ""), []string{"f", "g"}) || !slices.Equal(impl.Reached(p), []string{"f", "g"}) {
		t.Error("a result shares memory with an earlier one")
	}
}
