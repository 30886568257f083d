package tests

import (
	"math"
	"slices"
	"strings"
	"testing"

	"loop.example/g00700/impl"
)

// The model collects the conditions of chapter 11 from trees. The smallest sets
// are found by following each tag from where it comes to all the places that it
// gets to; and, in small programs, by trying out everything.

// spot is what has a set of types: a name, the elements of one, or a function.
type spot struct {
	fn, s string
	kind  int
}

func single(r ref) spot        { return spot{r.fn, r.s, impl.MkSingle} }
func elements(r ref) spot      { return spot{r.fn, r.s, impl.MkElem} }
func resulting(fn string) spot { return spot{fn, "", impl.MkResult} }

// flow is a condition: what it goes to has these tags and all those of from.
type flow struct {
	to   spot
	tags int
	from []spot
}

type flows struct {
	*usage
	all []flow
}

func flowsOf(rules []rule) *flows {
	f := &flows{usage: usageOf(rules)}
	for r := range f.shapes {
		f.add(single(r), 1)
		f.add(elements(r), 1)
	}
	for fn := range f.first {
		f.add(resulting(fn), 1)
	}
	for _, tie := range f.ties {
		f.add(elements(tie[0]), 0, elements(tie[1]))
		f.add(elements(tie[1]), 0, elements(tie[0]))
	}
	eachTree(rules, f.collect)
	return f
}

// eachTree visits all trees, in the order of the nodes.
func eachTree(rules []rule, visit func(fn string, x *tree)) {
	var walk func(fn string, x *tree)
	walk = func(fn string, x *tree) {
		for _, kid := range x.kids {
			walk(fn, kid)
		}
		visit(fn, x)
	}
	for _, r := range rules {
		if r.cond != nil {
			walk("", r.cond)
		}
		walk(r.name, r.body)
	}
}

func (f *flows) add(to spot, tags int, from ...spot) {
	f.all = append(f.all, flow{to, tags, from})
}

// types returns the tags that an expression always has, and what it has its
// other types from.
func (f *flows) types(fn string, x *tree) (int, []spot) {
	switch x.kind {
	case impl.NkVar:
		if r := f.refer(fn, x.s); !special(r) {
			return 0, []spot{single(r)}
		}
		return 2, nil
	case impl.NkField:
		return 13, nil
	case impl.NkElem:
		return 0, []spot{elements(f.refer(fn, x.s))}
	case impl.NkStr, impl.NkCat, impl.NkSubstr, impl.NkUpper:
		return 4, nil
	case impl.NkSet:
		return f.types(fn, x.kids[1])
	case impl.NkCond:
		tags, from := f.types(fn, x.kids[1])
		more, others := f.types(fn, x.kids[2])
		return tags | more, slices.Concat(from, others)
	case impl.NkCall:
		if _, is := f.first[x.s]; is {
			return 0, []spot{resulting(x.s)}
		}
		return 0, nil
	}
	return 2, nil
}

func (f *flows) target(fn string, x *tree, tags int, from []spot) {
	switch x.kind {
	case impl.NkVar:
		if r := f.refer(fn, x.s); !special(r) {
			f.add(single(r), tags, from...)
		}
	case impl.NkElem:
		f.add(elements(f.refer(fn, x.s)), tags, from...)
	}
}

func (f *flows) collect(fn string, x *tree) {
	switch x.kind {
	case impl.NkSet:
		tags, from := f.types(fn, x.kids[1])
		f.target(fn, x.kids[0], tags, from)
	case impl.NkSetAdd:
		f.target(fn, x.kids[0], 2, nil)
	case impl.NkForIn:
		f.target(fn, vari(x.s), 4, nil)
	case impl.NkSplit:
		f.add(elements(f.refer(fn, x.t)), 4+8)
	case impl.NkCall:
		for i := 0; i < len(x.kids) && i < len(f.first[x.s]); i++ {
			tags, from := f.types(fn, x.kids[i])
			f.add(single(ref{x.s, f.first[x.s][i]}), tags, from...)
		}
	case impl.NkReturn:
		if fn != "" && len(x.kids) == 1 {
			tags, from := f.types(fn, x.kids[0])
			f.add(resulting(fn), tags, from...)
		}
	}
}

func unionOf(sets map[spot]int, tags int, from []spot) int {
	for _, s := range from {
		tags |= sets[s]
	}
	return tags
}

// smallest follows each tag.
func (f *flows) smallest() map[spot]int {
	type step struct {
		to  spot
		tag int
	}
	var open []step
	next := map[spot][]spot{}
	for _, w := range f.all {
		for tag := 1; tag < 16; tag *= 2 {
			if w.tags&tag != 0 {
				open = append(open, step{w.to, tag})
			}
		}
		for _, s := range w.from {
			next[s] = append(next[s], w.to)
		}
	}
	sets := map[spot]int{}
	for i := 0; i < len(open); i++ {
		at := open[i]
		if sets[at.to]&at.tag == 0 {
			sets[at.to] |= at.tag
			for _, to := range next[at.to] {
				open = append(open, step{to, at.tag})
			}
		}
	}
	return sets
}

// triedOut tries, for each tag, all sets of spots that may have it, and takes
// what those that satisfy the conditions have in common.
func (f *flows) triedOut() map[spot]int {
	index := map[spot]int{}
	for _, w := range f.all {
		for _, s := range append(slices.Clone(w.from), w.to) {
			if _, known := index[s]; !known {
				index[s] = len(index)
			}
		}
	}
	sets := map[spot]int{}
	for tag := 1; tag < 16; tag *= 2 {
		common := -1
		for having := range 1 << len(index) {
			if f.satisfied(index, tag, having) {
				common &= having
			}
		}
		for s, i := range index {
			sets[s] |= common >> i & 1 * tag
		}
	}
	return sets
}

func (f *flows) satisfied(index map[spot]int, tag, having int) bool {
	for _, w := range f.all {
		needed := w.tags&tag != 0
		for _, s := range w.from {
			needed = needed || having>>index[s]&1 == 1
		}
		if needed && having>>index[w.to]&1 == 0 {
			return false
		}
	}
	return true
}

// broken returns whether a condition does not hold.
func (f *flows) broken(sets map[spot]int) bool {
	for _, w := range f.all {
		if unionOf(sets, w.tags, w.from)&^sets[w.to] != 0 {
			return true
		}
	}
	return false
}

// wantMarks are the marks of Kinds, in order.
func (f *flows) wantMarks(sets map[spot]int) []impl.Mark {
	var marks []impl.Mark
	put := func(s spot) {
		marks = append(marks, impl.Mark{Fn: s.fn, S: s.s, Kind: s.kind, Tags: sets[s]})
	}
	for r, shape := range f.shapes {
		if special(r) {
			continue
		}
		if shape == impl.ShNone || shape == impl.ShSingle || shape == impl.ShBoth {
			put(single(r))
		}
		if shape == impl.ShArray || shape == impl.ShBoth {
			put(elements(r))
		}
	}
	for fn := range f.first {
		put(resulting(fn))
	}
	return union(marks)
}

// checkSmallest checks, with the sets that Kinds returns, that all conditions
// hold, and that one is broken if any tag is taken away.
func (f *flows) checkSmallest(t *testing.T, src string, sets map[spot]int, marks []impl.Mark) {
	t.Helper()
	for _, m := range marks {
		sets[spot{m.Fn, m.S, m.Kind}] = m.Tags
	}
	if f.broken(sets) {
		t.Errorf("%s: Kinds breaks a condition: %s", src, marksText(marks))
	}
	for _, m := range marks {
		s := spot{m.Fn, m.S, m.Kind}
		for tag := 1; tag < 16; tag *= 2 {
			if m.Tags&tag != 0 {
				sets[s] -= tag
				if !f.broken(sets) {
					t.Errorf("%s: %s has %d needlessly", src, markText(m), tag)
				}
				sets[s] += tag
			}
		}
	}
}

// checkSomeTypes compares Kinds with the model, and, for every step-th mark and
// node, KindsOf and ExprKinds.
func checkSomeTypes(t *testing.T, p impl.Prog, step int) []impl.Mark {
	t.Helper()
	rules := rulesOf(p)
	f := flowsOf(rules)
	sets := f.smallest()
	src := progText(rules)
	marks, want := impl.Kinds(p), f.wantMarks(sets)
	if !slices.Equal(marks, want) {
		t.Fatalf("%s: Kinds = %s; want %s", src, marksText(marks), marksText(want))
	}
	k := 0
	eachTree(rules, func(fn string, x *tree) {
		if k%step == 0 {
			want := 0
			if !isStatement(x.kind) {
				tags, from := f.types(fn, x)
				want = unionOf(sets, tags, from)
			}
			if got := impl.ExprKinds(p, k); got != want {
				t.Errorf("%s: ExprKinds of %s = %d; want %d", src, text(x), got, want)
			}
		}
		k++
	})
	f.checkSmallest(t, src, sets, marks)
	for i := 0; i < len(marks); i += step {
		m := marks[i]
		if got := impl.KindsOf(p, m.Fn, m.S, m.Kind); got != m.Tags {
			t.Errorf("%s: KindsOf gives %d for %s", src, got, markText(m))
		}
	}
	return marks
}

// checkTypes compares all of that with the model.
func checkTypes(t *testing.T, p impl.Prog) []impl.Mark {
	t.Helper()
	for _, k := range []int{math.MinInt, -1, len(p.L), len(p.L) + 1, math.MaxInt} {
		if got := impl.ExprKinds(p, k); got != 0 {
			t.Errorf("%s: ExprKinds of %d = %d", impl.ProgText(p), k, got)
		}
	}
	return checkSomeTypes(t, p, 1)
}

// checkTriedOut compares the model with trying out everything.
func checkTriedOut(t *testing.T, p impl.Prog) {
	t.Helper()
	f := flowsOf(rulesOf(p))
	sets, tried := f.smallest(), f.triedOut()
	for s, tags := range tried {
		if sets[s] != tags {
			t.Fatalf("%s: trying out gives %d for %v; the model %d", impl.ProgText(p), tags, s, sets[s])
		}
	}
}

// oneShape reports whether the promise speaks of a program: its names have one
// shape each, its calls fit, and its functions and their parameters have
// different names.
func oneShape(rules []rule) bool {
	u := usageOf(rules)
	fit := true
	for r, shape := range u.shapes {
		fit = fit && shape != impl.ShBoth && !(special(r) && shape == impl.ShArray)
	}
	var functions []string
	for _, r := range rules {
		if r.when == impl.WnFunc {
			fit = fit && len(ascending(r.params)) == len(r.params)
			functions = append(functions, r.name)
		}
	}
	eachTree(rules, func(_ string, x *tree) {
		if params, is := u.first[x.s]; x.kind == impl.NkCall && (!is || len(x.kids) > len(params)) {
			fit = false
		}
	})
	return fit && len(ascending(functions)) == len(functions)
}

// held reports whether a list has a mark with all the tags of another.
func held(mark impl.Mark, l []impl.Mark) bool {
	return slices.ContainsFunc(l, func(m impl.Mark) bool {
		return m.Fn == mark.Fn && m.S == mark.S && m.Kind == mark.Kind && mark.Tags|m.Tags == m.Tags && m.Tags < 16 && mark.Tags >= 0 && m.Tags >= 0
	})
}

// checkPromised checks promise 11 on one program: each mark of its runs is
// inferred.
func checkPromised(t *testing.T, p impl.Prog, input string, fuels ...int) []impl.Mark {
	t.Helper()
	var marks []impl.Mark
	inferred := impl.Kinds(p)
	for _, fuel := range fuels {
		marks = impl.Run(p, input, fuel).Marks
		for _, mark := range marks {
			if !held(mark, inferred) {
				t.Fatalf("%s with the input %.200q and the fuel %d: %s is not inferred: %s", impl.ProgText(p), input, fuel, markText(mark), marksText(inferred))
			}
		}
		if !impl.MarksIn(marks, inferred) {
			t.Fatalf("%s with the input %.200q and the fuel %d: MarksIn denies that the marks are inferred", impl.ProgText(p), input, fuel)
		}
	}
	return marks
}

// streams makes programs in which types go to many places.
type streams struct {
	wilds
	fns []string
}

func (w *streams) name() string { return w.pick("a", "b", "c", "x", "y", "z", "NR", "NF", "f") }

func (w *streams) array() string { return w.pick("A", "B", "d", "e", "x") }

func (w *streams) expression(deep int) *tree {
	if deep <= 0 {
		switch w.dice.below(9) {
		case 0:
			return num(1)
		case 1:
			return str("s")
		case 2:
			return of(impl.NkField, num(1))
		}
		return vari(w.name())
	}
	e := func() *tree { return w.expression(w.dice.below(deep)) }
	switch w.dice.below(16) {
	case 0, 1, 2:
		return named(impl.NkElem, w.array(), "", e())
	case 3:
		return named(impl.NkSplit, "", w.array(), e())
	case 4, 5:
		return of(impl.NkCond, e(), e(), e())
	case 6:
		return w.set(deep)
	case 7:
		return of(impl.NkSetAdd, w.target(), e())
	case 8:
		return of([]int{impl.NkCat, impl.NkPlus, impl.NkLess, impl.NkIndex}[w.dice.below(4)], e(), e())
	case 9:
		return of([]int{impl.NkNot, impl.NkUpper, impl.NkInt, impl.NkLength}[w.dice.below(4)], e())
	}
	return w.call(deep)
}

func (w *streams) call(deep int) *tree {
	call := named(impl.NkCall, w.pick(append(w.fns, w.fns...)...), "")
	for range w.dice.below(4) {
		switch w.dice.below(4) {
		case 0:
			call.kids = append(call.kids, w.expression(deep-1))
		case 1:
			call.kids = append(call.kids, vari(w.array()))
		default:
			call.kids = append(call.kids, vari(w.name()))
		}
	}
	return call
}

func (w *streams) target() *tree {
	switch w.dice.below(8) {
	case 0:
		return of(impl.NkField, num(1))
	case 1, 2, 3:
		return named(impl.NkElem, w.array(), "", num(1))
	}
	return vari(w.name())
}

func (w *streams) set(deep int) *tree {
	return of(impl.NkSet, w.target(), w.expression(w.dice.below(deep)))
}

func (w *streams) statement() *tree {
	switch w.dice.below(12) {
	case 0:
		return named(impl.NkForIn, w.name(), w.array(), block())
	case 1, 2, 3:
		return of(impl.NkReturn, [][]*tree{nil, {w.expression(2)}, {vari(w.name())}, {w.call(1)}}[w.dice.below(4)]...)
	case 4:
		return of(impl.NkIf, w.expression(1), do(w.set(2)))
	case 5:
		return named(impl.NkDelete, w.array(), "", w.expression(1))
	case 6:
		return do(w.call(2))
	}
	return do(w.set(3))
}

func (w *streams) rules() []rule {
	w.fns = []string{"f", "g", "h", "k"}
	var rules []rule
	for range 1 + w.dice.below(6) {
		b := block()
		for range w.dice.below(5) {
			b.kids = append(b.kids, w.statement())
		}
		switch w.dice.below(8) {
		case 0:
			rules = append(rules, begin(b))
		case 1, 2:
			rules = append(rules, rule{when: impl.WnAll, body: b})
		case 3:
			rules = append(rules, when(w.expression(2), b))
		default:
			var params []string
			for range w.dice.below(4) {
				if w.dice.below(3) == 0 {
					params = append(params, w.array())
				} else {
					params = append(params, w.name())
				}
			}
			rules = append(rules, function(w.pick(w.fns...), params, b))
		}
	}
	return rules
}

func TestKindsOfMadePrograms(t *testing.T) {
	t.Parallel()
	counts := map[[2]int]int{}
	for seed := range 2500 {
		w := streams{wilds: wilds{dice: treeMaker(seed)}}
		rules := w.rules()
		p, at := impl.Parse(progText(rules))
		if at != -1 {
			continue // it is too long
		}
		countTags(counts, checkSomeTypes(t, p, 2+seed%7))
	}
	checkCounts(t, counts, 20)
}

func TestKindsOfMadeSources(t *testing.T) {
	t.Parallel()
	count := 0
	for seed := range 1000 {
		w := wilds{dice: treeMaker(300000 + seed)}
		src, _ := spareText(seed, true, w.rules())
		if p, at := impl.Parse(src); at == -1 {
			count++
			checkSomeTypes(t, p, 1+len(p.L)/20)
		}
		v := knots{wilds{dice: treeMaker(300000 + seed)}}
		checkSomeTypes(t, progOf(v.rules()...), 5)
	}
	if count < 700 {
		t.Error(count)
	}
}

// TestKindsOfAllShortPrograms checks programs of three statements that are chosen
// in all ways.
func TestKindsOfAllShortPrograms(t *testing.T) {
	t.Parallel()
	global := []string{"x = 1;", `x = "s";`, "x = y;", "y = x;", "y += 1;", "x = x;", "y = f(x);", "x = f(y);", "f(1);", "f(A);", "A[1] = y;", "x = A[1];", "for (y in A) { }", "split(1, A);", "A[1] = $1;", "x = g();", "return 1;"}
	local := []string{"", "x = a;", "a = y;", "a = 1;", "return;", "return a;", "return x;", "return f(a);", "a = f(1);", "return a[1];", "a[1] = 1;", "A[1] = a[1];", "split(x, a);", "f(A);", "y = A[1];", "return 1 ? a : \"s\";"}
	for _, a := range global {
		for _, b := range global {
			for i, c := range local {
				src := "{ " + a + " " + b + " } function f(a) { " + c + " }"
				if i%2 == 1 {
					src = "function f(a) { " + c + " } { " + a + " } { " + b + " }"
				}
				p := parsed(t, src)
				checkTriedOut(t, p)
				checkSomeTypes(t, p, 3)
			}
		}
	}
}

// brooks makes programs whose runs go far and give names many types: each name is
// used in one way, little can fail, and a function calls itself a few times only.
type brooks struct {
	wilds
	singles, arrays []string
	// The functions that can be called; and whether the first of them is the one
	// around the calls.
	fns  []string
	self bool
}

// brookParams are the parameters of a function; the array is r.
func brookParams(fn string) []string {
	return map[string][]string{"f": {"p", "r", "q"}, "g": {"p", "r"}, "h": {"r", "p"}, "k": {"p"}}[fn]
}

func (w *brooks) value(deep int) *tree {
	e := func() *tree { return w.value(deep - 1) }
	if deep <= 0 {
		return []*tree{num(w.dice.below(3)), str(w.pick("s", "", "7", "t u")), of(impl.NkField, num(w.dice.below(4))), vari(w.pick("NR", "NF")), vari(w.pick(w.singles...)), vari(w.pick(w.singles...)), w.element(), w.element()}[w.dice.below(8)]
	}
	switch w.dice.below(16) {
	case 0:
		return of(impl.NkCat, of(impl.NkSubstr, e(), num(1), num(9)), e())
	case 1:
		return of([]int{impl.NkLess, impl.NkSame, impl.NkOr, impl.NkAnd, impl.NkIndex}[w.dice.below(5)], e(), e())
	case 2:
		return of([]int{impl.NkInt, impl.NkUpper, impl.NkNot, impl.NkLength}[w.dice.below(4)], e())
	case 3, 4:
		return of(impl.NkCond, e(), e(), e())
	case 5, 6:
		return of(impl.NkSet, w.target(), e())
	case 7:
		return of(impl.NkSetAdd, w.target(), named(impl.NkIn, w.pick(w.arrays...), "", e()))
	case 8:
		return named(impl.NkSplit, "", w.pick(w.arrays...), e())
	case 9, 10, 11, 12:
		return w.call(deep)
	}
	return w.value(0)
}

func (w *brooks) element() *tree {
	return named(impl.NkElem, w.pick(w.arrays...), "", num(w.dice.below(4)))
}

func (w *brooks) target() *tree {
	switch w.dice.below(6) {
	case 0:
		return of(impl.NkField, num(w.dice.below(5)))
	case 1, 2:
		return w.element()
	}
	return vari(w.pick(w.singles...))
}

func (w *brooks) call(deep int) *tree {
	if len(w.fns) == 0 {
		return w.value(0)
	}
	call := named(impl.NkCall, w.pick(w.fns...), "")
	for _, param := range brookParams(call.s) {
		switch {
		case w.dice.below(8) == 0:
			return w.guarded(call)
		case param == "r":
			call.kids = append(call.kids, vari(w.pick(w.arrays...)))
		case w.dice.below(2) == 0:
			call.kids = append(call.kids, vari(w.pick(w.singles...)))
		default:
			call.kids = append(call.kids, w.value(deep-1))
		}
	}
	return w.guarded(call)
}

// guarded is the call itself, unless it is one of the function around it.
func (w *brooks) guarded(call *tree) *tree {
	if !w.self || call.s != w.fns[0] {
		return call
	}
	return of(impl.NkCond, of(impl.NkLess, of(impl.NkSetAdd, vari("count"), num(1)), num(5)), call, w.value(0))
}

func (w *brooks) statement(deep int) *tree {
	switch w.dice.below(10) {
	case 0:
		return named(impl.NkForIn, w.pick(w.singles...), w.pick(w.arrays...), do(w.value(1)))
	case 1:
		return named(impl.NkDelete, w.pick(w.arrays...), "", num(w.dice.below(4)))
	case 2, 3:
		if deep > 0 {
			return of(impl.NkIf, w.value(1), block(w.statement(deep-1)), w.statement(deep-1))
		}
	case 4:
		return do(w.call(2))
	}
	return do(of(impl.NkSet, w.target(), w.value(2)))
}

func (w *brooks) body(some int) *tree {
	b := block()
	for range some + w.dice.below(3) {
		b.kids = append(b.kids, w.statement(1))
	}
	return b
}

func (w *brooks) rules() []rule {
	var rules []rule
	globals, arrays := []string{"x", "y", "z"}, []string{"A", "B"}
	for i := range 4 {
		w.fns, w.self = []string{"f", "g", "h", "k"}[i:], true
		params := brookParams(w.fns[0])
		w.singles, w.arrays = append(slices.Clone(globals), "p", "p", "p"), slices.Clone(arrays)
		if slices.Contains(params, "r") {
			w.arrays = append(w.arrays, "r", "r")
		}
		b := w.body(0)
		if w.dice.below(3) == 0 {
			b.kids = append(b.kids, of(impl.NkIf, w.value(1), of(impl.NkReturn, w.value(0))))
		}
		if w.dice.below(4) > 0 {
			b.kids = append(b.kids, of(impl.NkReturn, w.value(1)))
		}
		rules = append(rules, function(w.fns[0], params, b))
	}
	w.fns, w.self, w.singles, w.arrays = []string{"f", "g", "h", "k"}, false, globals, arrays
	rules = append(rules, begin(w.body(0)), rule{when: impl.WnAll, body: w.body(2)}, when(w.value(1), w.body(0)), end(w.body(0)))
	for i := range rules {
		j := w.dice.below(i + 1)
		rules[i], rules[j] = rules[j], rules[i]
	}
	return rules
}

// countTags counts, for each kind of mark, the marks with each tag.
func countTags(counts map[[2]int]int, marks []impl.Mark) {
	for _, mark := range marks {
		for tag := 1; tag < 16; tag *= 2 {
			if mark.Tags&tag != 0 {
				counts[[2]int{mark.Kind, tag}]++
			}
		}
	}
}

func checkCounts(t *testing.T, counts map[[2]int]int, least int) {
	t.Helper()
	for _, kind := range []int{impl.MkSingle, impl.MkElem, impl.MkResult} {
		for tag := 1; tag < 16; tag *= 2 {
			if counts[[2]int{kind, tag}] < least {
				t.Errorf("%d marks of the kind %d have the tag %d", counts[[2]int{kind, tag}], kind, tag)
			}
		}
	}
}

func TestKindsIncludeTheMarksOfRuns(t *testing.T) {
	t.Parallel()
	ends, counts := 0, map[[2]int]int{}
	for seed := range 1500 {
		w := brooks{wilds: wilds{dice: treeMaker(400000 + seed)}}
		rules := w.rules()
		p, at := impl.Parse(progText(rules))
		if at != -1 {
			continue // it is too long
		}
		if !oneShape(rules) {
			t.Fatalf("%s has a name with two shapes, or a call that does not fit", progText(rules))
		}
		fuels := []int{0, 40, 200, 1000, 5000}
		if seed%15 == 0 {
			for fuel := range 100 {
				fuels = append(fuels, fuel)
			}
		}
		countTags(counts, checkPromised(t, p, "1 b\n2.5\n\nc 7 d\n", append(fuels, impl.MaxFuel)...))
		if impl.Run(p, "1 b\n2.5\n\nc 7 d\n", impl.MaxFuel).Code == impl.RnEnd {
			ends++
		}
	}
	checkCounts(t, counts, 100)
	if ends < 700 {
		t.Error(ends)
	}
}

// TestKindsIncludeTheMarksOfWildRuns does so with programs that fail in many ways,
// most of them soon.
func TestKindsIncludeTheMarksOfWildRuns(t *testing.T) {
	t.Parallel()
	codes := map[int]int{}
	for seed := range 1000 {
		w := runs{wilds: wilds{dice: treeMaker(600000 + seed)}, strict: true}
		rules, input := w.rules(), w.input()
		p, at := impl.Parse(progText(rules))
		if at != -1 {
			continue // it is too long
		}
		if !oneShape(rules) {
			t.Fatalf("%s has a name with two shapes, or a call that does not fit", progText(rules))
		}
		checkPromised(t, p, input, 20, 50, 100, 600)
		codes[impl.Run(p, input, impl.MaxFuel).Code]++
	}
	for _, code := range []int{impl.RnEnd, impl.RnDivide, impl.RnConst, impl.RnFormat} {
		if codes[code] == 0 {
			t.Error(codes)
		}
	}
	// An accepted program never uses a name in a wrong way.
	if codes[impl.RnSingle]+codes[impl.RnArray]+codes[impl.RnArgs] > 0 {
		t.Error(codes)
	}
}

// TestKindsIncludeTheMarksOfPassedNames passes unset names on, in each way.
func TestKindsIncludeTheMarksOfPassedNames(t *testing.T) {
	t.Parallel()
	checked := 0
	globals := []string{"", "x = 1;", "x;", "x = $1;", "x[1] = 2;", `x["s"] = "t";`, "split($0, x);", "y = x;", "y = x[1];"}
	firsts := []string{"", "a;", "a = \"s\";", "a[1] = 2;", "a[2] = $1;", "return a;", "return a[1];", "x = 5;", "x[1] = NR;", "g(a);", "g(a, a);", "return g(b, a);"}
	seconds := []string{"", "c;", "d += 1;", "c = $0;", "c[1] = d;", "d[1] = c[2];", "return d;", "return d[1];", "if (n += 1 < 4) g(d, c);"}
	for _, g := range globals {
		for _, one := range firsts {
			for _, two := range seconds {
				two = strings.Replace(two, "n += 1 < 4", "(n += 1) < 4", 1)
				src := "{ " + g + " z = f(x); f(x); " + g + " z; } function f(a, b) { " + one + " } function g(c, d) { " + two + " }"
				p := parsed(t, src)
				if oneShape(rulesOf(p)) {
					checked++
					checkPromised(t, p, "1\nb c\n", 0, 3, 6, 9, 12, 15, 18, 21, 24, 27, 30, 40, 50, 60, 90, 500)
				}
			}
		}
	}
	if checked < 200 {
		t.Error(checked)
	}
}
