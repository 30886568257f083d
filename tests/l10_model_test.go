package tests

import (
	"fmt"
	"slices"
	"sort"
	"strconv"
	"strings"
	"testing"

	"loop.example/g00700/impl"
)

// The model runs a program as chapter 10 says, in another way than the program
// does: everything that leaves a body is a panic, and an array is given to all
// parameters that wait for it as soon as it comes to be. It runs a program once,
// and notes what has been done at the moment when each node begins, so that it
// can tell what is to be returned for any fuel.

// model is the state of a run.
type model struct {
	p       impl.Prog
	most    int
	globals map[string]*box
	locals  map[string]*box
	fn      string
	depth   int
	nr      int
	record  string
	fields  []string
	done    trace
}

// trace is what a run does.
type trace struct {
	begun []int
	// How much is printed and marked when each node begins.
	printed, marked []int
	out             string
	marks           []impl.Mark
	code, status    int
}

// halt is the panic of a condition, and jump that of a statement.
type halt int

type jump struct {
	kind  int
	value impl.Cell
}

const (
	boxUnset = iota
	boxSingle
	boxArray
)

type box struct {
	state   int
	cell    impl.Cell
	keys    map[string]impl.Cell
	passed  *box
	waiting []*box
}

func (b *box) become(keys map[string]impl.Cell) {
	b.state, b.keys = boxArray, keys
	for _, w := range b.waiting {
		if w.state == boxUnset {
			w.become(keys)
		}
	}
}

func (b *box) array() map[string]impl.Cell {
	switch {
	case b.state == boxSingle:
		panic(halt(impl.RnArray))
	case b.state == boxUnset && b.passed != nil:
		b.passed.array()
	case b.state == boxUnset:
		b.become(map[string]impl.Cell{})
	}
	return b.keys
}

func (m *model) begin(k int) {
	m.done.printed = append(m.done.printed, len(m.done.out))
	m.done.marked = append(m.done.marked, len(m.done.marks))
	if len(m.done.begun) == m.most {
		panic(halt(impl.RnFuel))
	}
	m.done.begun = append(m.done.begun, k)
}

func (m *model) mark(r ref, kind int, c impl.Cell) {
	m.done.marks = append(m.done.marks, impl.Mark{Fn: r.fn, S: r.s, Kind: kind, Tags: []int{1, 2, 4, 8}[c.Tag]})
}

// refer tells what a name in the body that is being executed refers to.
func (m *model) refer(s string) ref {
	for _, item := range m.p.Items {
		if item.When == impl.WnFunc && item.Name == m.fn && slices.Contains(item.Params, s) {
			return ref{m.fn, s}
		}
	}
	return ref{"", s}
}

func special(r ref) bool { return r == ref{"", "NR"} || r == ref{"", "NF"} }

func (m *model) box(r ref) *box {
	boxes := m.globals
	if r.fn != "" {
		boxes = m.locals
	}
	if boxes[r.s] == nil {
		boxes[r.s] = &box{}
	}
	return boxes[r.s]
}

func (m *model) array(s string) map[string]impl.Cell {
	r := m.refer(s)
	if special(r) {
		panic(halt(impl.RnArray))
	}
	return m.box(r).array()
}

func need(ok bool, code int) {
	if !ok {
		panic(halt(code))
	}
}

func (m *model) put(s, key string, c impl.Cell) {
	a := m.array(s)
	_, there := a[key]
	need(there || len(a) < impl.MaxKeys, impl.RnLong)
	a[key] = c
	m.mark(m.refer(s), impl.MkElem, c)
}

func (m *model) setVariable(s string, c impl.Cell) {
	r := m.refer(s)
	need(!special(r), impl.RnSet)
	b := m.box(r)
	need(b.state != boxArray, impl.RnSingle)
	b.state, b.cell = boxSingle, c
	m.mark(r, impl.MkSingle, c)
}

func whole(n int) impl.Cell { return cellNum(n * impl.One) }

func yes(b bool) impl.Cell {
	if b {
		return whole(1)
	}
	return whole(0)
}

func integral(c impl.Cell) int { return impl.ToNum(c) / impl.One }

// read is the value of a variable, field or element whose operand has been
// evaluated.
func (m *model) read(n impl.Node, operand impl.Cell) impl.Cell {
	switch n.Kind {
	case impl.NkField:
		i := integral(operand)
		need(i >= 0 && i <= impl.MaxFields, impl.RnLong)
		if i == 0 {
			return impl.FieldCell(m.record)
		}
		if i > len(m.fields) {
			return unset
		}
		return impl.FieldCell(m.fields[i-1])
	case impl.NkElem:
		key := impl.ToStr(operand)
		m.put(n.S, key, m.array(n.S)[key])
		return m.array(n.S)[key]
	}
	r := m.refer(n.S)
	if special(r) {
		return whole(map[string]int{"NR": m.nr, "NF": len(m.fields)}[n.S])
	}
	b := m.box(r)
	need(b.state != boxArray, impl.RnSingle)
	m.mark(r, impl.MkSingle, b.cell)
	return b.cell
}

func (m *model) write(n impl.Node, operand, c impl.Cell) {
	switch n.Kind {
	case impl.NkField:
		i := integral(operand)
		need(i >= 0 && i <= impl.MaxFields, impl.RnLong)
		if i == 0 {
			m.setLine(impl.ToStr(c))
			return
		}
		l := slices.Clone(m.fields)
		for len(l) < i {
			l = append(l, "")
		}
		l[i-1] = impl.ToStr(c)
		joined := strings.Join(l, " ")
		need(len(joined) <= impl.MaxStr, impl.RnLong)
		m.record, m.fields = joined, l
	case impl.NkElem:
		m.put(n.S, impl.ToStr(operand), c)
	default:
		m.setVariable(n.S, c)
	}
}

func (m *model) setLine(s string) {
	m.record, m.fields = s, wantFields(s)
}

func (m *model) assign(n impl.Node) impl.Cell {
	target := m.p.L[n.Kids[0]]
	var operand impl.Cell
	if len(target.Kids) > 0 {
		operand = m.value(target.Kids[0])
	}
	var old impl.Cell
	if n.Kind == impl.NkSetAdd {
		old = m.read(target, operand)
	}
	c := m.value(n.Kids[1])
	if n.Kind == impl.NkSetAdd {
		sum := impl.ToNum(old) + impl.ToNum(c)
		need(sum >= -impl.MaxDec && sum <= impl.MaxDec, impl.RnOver)
		c = cellNum(sum)
	}
	m.write(target, operand, c)
	return c
}

func (m *model) matches(re, s string, code int) bool {
	l, ok := impl.ReParse(re)
	need(ok, code)
	return impl.ReTest(l, s)
}

func (m *model) match(n impl.Node) bool {
	s := impl.ToStr(m.value(n.Kids[0]))
	if re := m.p.L[n.Kids[1]]; re.Kind == impl.NkRe {
		return m.matches(re.S, s, impl.RnConst)
	}
	return m.matches(impl.ToStr(m.value(n.Kids[1])), s, impl.RnRe)
}

// value evaluates node k.
func (m *model) value(k int) impl.Cell {
	m.begin(k)
	n := m.p.L[k]
	switch n.Kind {
	case impl.NkSet, impl.NkSetAdd:
		return m.assign(n)
	case impl.NkCond:
		if impl.Truth(m.value(n.Kids[0])) {
			return m.value(n.Kids[1])
		}
		return m.value(n.Kids[2])
	case impl.NkOr:
		return yes(impl.Truth(m.value(n.Kids[0])) || impl.Truth(m.value(n.Kids[1])))
	case impl.NkAnd:
		return yes(impl.Truth(m.value(n.Kids[0])) && impl.Truth(m.value(n.Kids[1])))
	case impl.NkMatch:
		return yes(m.match(n))
	case impl.NkNoMatch:
		return yes(!m.match(n))
	case impl.NkCall:
		return m.call(n)
	}
	var l []impl.Cell
	for _, kid := range n.Kids {
		l = append(l, m.value(kid))
	}
	return m.operation(n, append(l, unset))
}

func limited(s string) impl.Cell {
	need(len(s) <= impl.MaxStr, impl.RnLong)
	return cellStr(s)
}

func (m *model) operation(n impl.Node, l []impl.Cell) impl.Cell {
	first := impl.ToStr(l[0])
	switch n.Kind {
	case impl.NkVar, impl.NkField, impl.NkElem:
		return m.read(n, l[0])
	case impl.NkNum:
		return cellNum(n.N)
	case impl.NkStr:
		return limited(n.S)
	case impl.NkRe:
		return yes(m.matches(n.S, m.record, impl.RnConst))
	case impl.NkIn:
		_, there := m.array(n.S)[first]
		return yes(there)
	case impl.NkNot:
		return yes(!impl.Truth(l[0]))
	case impl.NkNeg:
		return cellNum(-impl.ToNum(l[0]))
	case impl.NkCat:
		return limited(first + impl.ToStr(l[1]))
	case impl.NkLess, impl.NkLessEq, impl.NkSame, impl.NkUnlike:
		return yes(wantRelate(n.Kind, impl.Compare(l[0], l[1])))
	case impl.NkLength:
		if len(n.Kids) == 0 {
			first = m.record
		}
		return whole(len(first))
	case impl.NkSubstr:
		return cellStr(m.substring(n, first, l))
	case impl.NkIndex:
		if l[1].Tag != impl.CeNum && l[1].S == "" {
			return whole(0)
		}
		return whole(strings.Index(first, impl.ToStr(l[1])) + 1)
	case impl.NkUpper:
		return cellStr(upper(first))
	case impl.NkInt:
		return whole(integral(l[0]))
	case impl.NkSplit:
		return m.split(n, l)
	}
	c, code := impl.Arith(n.Kind, l[0], l[1])
	need(code != impl.AcDivide, impl.RnDivide)
	need(code == impl.AcOk, impl.RnOver)
	return c
}

func (m *model) substring(n impl.Node, s string, l []impl.Cell) string {
	part := ""
	for i := range len(s) {
		from, at := integral(l[1]), i+1
		if at >= from && (len(n.Kids) == 2 || at <= from+integral(l[2])-1) {
			part += s[i : i+1]
		}
	}
	return part
}

func upper(s string) string {
	b := []byte(s)
	for i := range b {
		if b[i] >= 'a' && b[i] <= 'z' {
			b[i] -= 32
		}
	}
	return string(b)
}

func (m *model) split(n impl.Node, l []impl.Cell) impl.Cell {
	separator := " "
	if len(n.Kids) == 2 {
		separator = impl.ToStr(l[1])
	}
	a := m.array(n.T)
	for key := range a {
		delete(a, key)
	}
	parts := wantSplitBy(impl.ToStr(l[0]), separator)
	for i, s := range parts {
		m.put(n.T, strconv.Itoa(i+1), impl.FieldCell(s))
	}
	return whole(len(parts))
}

// function returns the first one with a name.
func (m *model) function(name string) *impl.Item {
	for i := range m.p.Items {
		if m.p.Items[i].When == impl.WnFunc && m.p.Items[i].Name == name {
			return &m.p.Items[i]
		}
	}
	return nil
}

// argument makes the box of a parameter.
func (m *model) argument(k int) *box {
	n := m.p.L[k]
	if n.Kind != impl.NkVar || special(m.refer(n.S)) {
		return &box{state: boxSingle, cell: m.value(k)}
	}
	m.begin(k)
	b := m.box(m.refer(n.S))
	param := &box{state: b.state, cell: b.cell, keys: b.keys}
	if b.state == boxUnset {
		param.passed = b
		b.waiting = append(b.waiting, param)
	}
	return param
}

func (m *model) call(n impl.Node) impl.Cell {
	f := m.function(n.S)
	need(f != nil && len(f.Params) >= len(n.Kids), impl.RnArgs)
	need(m.depth < impl.MaxCalls, impl.RnDeep)
	locals := map[string]*box{}
	for i, kid := range n.Kids {
		b, name := m.argument(kid), f.Params[i]
		if locals[name] != nil {
			continue
		}
		locals[name] = b
		if b.state == boxSingle {
			m.mark(ref{n.S, name}, impl.MkSingle, b.cell)
		}
	}
	fn, outer := m.fn, m.locals
	m.fn, m.locals = n.S, locals
	m.depth++
	j := m.caught(func() { m.execute(f.Body) }, impl.NkReturn, impl.NkBreak, impl.NkContinue)
	m.depth--
	m.fn, m.locals = fn, outer
	m.mark(ref{n.S, ""}, impl.MkResult, j.value)
	return j.value
}

// caught runs something, and returns the jump of one of these kinds that ends it.
func (m *model) caught(run func(), kinds ...int) (j jump) {
	defer func() {
		r := recover()
		if left, ok := r.(jump); ok && slices.Contains(kinds, left.kind) {
			j = left
		} else if r != nil {
			panic(r)
		}
	}()
	run()
	return jump{}
}

func (m *model) output(s string) {
	need(len(m.done.out)+len(s) <= impl.MaxOut, impl.RnLong)
	m.done.out += s
}

func (m *model) execute(k int) {
	m.begin(k)
	n := m.p.L[k]
	switch n.Kind {
	case impl.NkBlock:
		for _, kid := range n.Kids {
			m.execute(kid)
		}
	case impl.NkIf:
		if impl.Truth(m.value(n.Kids[0])) {
			m.execute(n.Kids[1])
		} else if len(n.Kids) == 3 {
			m.execute(n.Kids[2])
		}
	case impl.NkWhile, impl.NkFor, impl.NkForIn:
		m.caught(func() { m.loop(n) }, impl.NkBreak)
	case impl.NkBreak, impl.NkContinue, impl.NkNext:
		panic(jump{kind: n.Kind})
	default:
		var l []impl.Cell
		for _, kid := range n.Kids {
			l = append(l, m.value(kid))
		}
		m.simple(n, l)
	}
}

func (m *model) loop(n impl.Node) {
	turn := func(k int) {
		m.caught(func() { m.execute(k) }, impl.NkContinue)
	}
	switch n.Kind {
	case impl.NkWhile:
		for impl.Truth(m.value(n.Kids[0])) {
			turn(n.Kids[1])
		}
	case impl.NkFor:
		for m.value(n.Kids[0]); impl.Truth(m.value(n.Kids[1])); m.value(n.Kids[2]) {
			turn(n.Kids[3])
		}
	case impl.NkForIn:
		var keys []string
		for key := range m.array(n.T) {
			keys = append(keys, key)
		}
		sort.Strings(keys)
		for _, key := range keys {
			m.setVariable(n.S, cellStr(key))
			turn(n.Kids[0])
		}
	}
}

func (m *model) simple(n impl.Node, l []impl.Cell) {
	switch n.Kind {
	case impl.NkPrint:
		var texts []string
		for _, c := range l {
			texts = append(texts, impl.ToStr(c))
		}
		if len(l) == 0 {
			texts = []string{m.record}
		}
		m.output(strings.Join(texts, " ") + "\n")
	case impl.NkPrintf:
		s, code := wantFormat(impl.ToStr(l[0]), l[1:])
		need(code == impl.FmOk || code == impl.FmLong, impl.RnFormat)
		need(code == impl.FmOk, impl.RnLong)
		m.output(s)
	case impl.NkExit, impl.NkReturn:
		panic(jump{n.Kind, append(l, unset)[0]})
	case impl.NkDelete:
		delete(m.array(n.S), impl.ToStr(l[0]))
	}
}

// item executes one item, and reports whether a next has ended it.
func (m *model) item(item impl.Item) bool {
	j := m.caught(func() {
		if item.When != impl.WnExpr || impl.Truth(m.value(item.Cond)) {
			m.execute(item.Body)
		}
	}, impl.NkReturn, impl.NkBreak, impl.NkContinue, impl.NkNext)
	// A next may come from a function.
	m.fn, m.locals, m.depth = "", nil, 0
	return j.kind == impl.NkNext
}

func (m *model) items(kinds ...int) {
	for _, item := range m.p.Items {
		if slices.Contains(kinds, item.When) && m.item(item) && kinds[0] == impl.WnAll {
			return
		}
	}
}

func (m *model) run(input string) {
	defer func() {
		switch r := recover().(type) {
		case nil:
		case halt:
			m.done.code = int(r)
		case jump:
			m.done.status = integral(r.value)
		default:
			panic(r)
		}
	}()
	m.items(impl.WnBegin)
	for _, line := range wantLines(input) {
		m.nr++
		m.setLine(line)
		m.items(impl.WnAll, impl.WnExpr)
	}
	m.items(impl.WnEnd)
}

// traceOf runs a program until most nodes have begun.
func traceOf(p impl.Prog, input string, most int) trace {
	m := &model{p: p, most: most, globals: map[string]*box{}}
	m.run(input)
	return m.done
}

// unfinished reports whether the run has begun as many nodes as it may.
func (d trace) unfinished() bool { return len(d.printed) > len(d.begun) }

// union is the marks of a run, each once and in order.
func union(marks []impl.Mark) []impl.Mark {
	tags := map[impl.Mark]int{}
	for _, mark := range marks {
		key := mark
		key.Tags = 0
		tags[key] |= mark.Tags
	}
	var l []impl.Mark
	for key, all := range tags {
		key.Tags = all
		l = append(l, key)
	}
	sort.Slice(l, func(i, j int) bool {
		a, b := l[i], l[j]
		if a.Fn != b.Fn {
			return a.Fn < b.Fn
		}
		if a.S != b.S {
			return a.S < b.S
		}
		return a.Kind < b.Kind
	})
	return l
}

// result is what Run must return for a fuel.
func (d trace) result(nodes, fuel int) impl.Result {
	r := impl.Result{Code: d.code, Status: d.status, Out: d.out, Left: fuel - len(d.begun), Marks: d.marks}
	begun := d.begun
	if fuel < len(d.printed) {
		begun = d.begun[:fuel]
		r = impl.Result{Code: impl.RnFuel, Out: d.out[:d.printed[fuel]], Marks: d.marks[:d.marked[fuel]]}
	}
	r.Marks = union(r.Marks)
	r.Hit = make([]bool, nodes)
	for _, k := range begun {
		r.Hit[k] = true
	}
	return r
}

func equalResults(a, b impl.Result) bool {
	return a.Code == b.Code && a.Status == b.Status && a.Out == b.Out && a.Left == b.Left && slices.Equal(a.Marks, b.Marks) && slices.Equal(a.Hit, b.Hit)
}

var codeWords = []string{"end", "fuel", "over", "divide", "re", "long", "deep", "single", "array", "args", "format", "const", "set", "form"}

func markText(mark impl.Mark) string {
	s := mark.S
	if mark.Fn != "" {
		s = mark.Fn + "." + s
	}
	switch mark.Kind {
	case impl.MkElem:
		s += "[]"
	case impl.MkResult:
		s = mark.Fn + "()"
	}
	return s + "=" + strconv.Itoa(mark.Tags)
}

func marksText(marks []impl.Mark) string {
	var texts []string
	for _, mark := range marks {
		texts = append(texts, markText(mark))
	}
	return strings.Join(texts, " ")
}

func resultText(r impl.Result) string {
	hits := ""
	for k, hit := range r.Hit {
		if hit {
			hits += " " + strconv.Itoa(k)
		}
	}
	return fmt.Sprintf("%s %d %.300q, left %d, %d nodes begun:%s, marks: %s", codeWords[r.Code], r.Status, r.Out, r.Left, len(r.Hit), hits, marksText(r.Marks))
}

// checkFuel compares one run with the model.
func checkFuel(t *testing.T, src string, p impl.Prog, input string, d trace, fuel int) {
	t.Helper()
	got, want := impl.Run(p, input, fuel), d.result(len(p.L), fuel)
	if !equalResults(got, want) {
		t.Fatalf("%s with the input %.200q and the fuel %d:\n%s; want\n%s", src, input, fuel, resultText(got), resultText(want))
	}
}

// checkEachFuel compares runs with the model, with every fuel up to more than is
// needed, or up to most.
func checkEachFuel(t *testing.T, src, input string, most int) trace {
	t.Helper()
	p := parsed(t, src)
	d := traceOf(p, input, most)
	for fuel := range len(d.printed) {
		checkFuel(t, src, p, input, d, fuel)
	}
	if !d.unfinished() {
		for _, fuel := range []int{len(d.begun), len(d.begun) + 1, impl.MaxFuel} {
			checkFuel(t, src, p, input, d, fuel)
		}
	}
	return d
}

// runs makes programs that come far when they are run: most names are used in
// one way, most loops end, and most calls have a function.
type runs struct {
	wilds
	// All names are used in one way, and all calls fit.
	strict bool
	params []string
	// How many loops there are, each with a counter of its own.
	loops int
}

func (w *runs) rarely() bool { return !w.strict && w.dice.below(25) == 0 }

func (w *runs) any() string { return w.pick("x", "y", "z", "A", "B", "NR", "NF", "p", "q", "r") }

func (w *runs) scalar() string {
	if w.rarely() {
		return w.any()
	}
	from := []string{"x", "y", "z"}
	for _, s := range w.params {
		if s != "r" {
			from = append(from, s, s)
		}
	}
	return w.pick(from...)
}

func (w *runs) array() string {
	if w.rarely() {
		return w.any()
	}
	from := []string{"A", "B"}
	if slices.Contains(w.params, "r") {
		from = append(from, "r", "r")
	}
	return w.pick(from...)
}

func (w *runs) key() *tree {
	if w.dice.below(2) == 0 {
		return num(w.dice.below(3))
	}
	return w.expression(1)
}

func (w *runs) index() *tree {
	if w.rarely() {
		return w.expression(1)
	}
	return num(w.dice.below(5))
}

func (w *runs) leaf() *tree {
	switch w.dice.below(14) {
	case 0, 1, 2:
		return num(w.dice.below(5))
	case 3:
		return &tree{kind: impl.NkNum, n: []int{500000, 1500000, impl.MaxDec, 1}[w.dice.below(4)]}
	case 4, 5:
		return str(w.pick("", "a", "b c", "1", "02", " 2.5 ", "x:y:1", "a b", "[", "%d", "\xff"))
	case 6:
		return rex(w.pick("a", "b|1", "^", "c*", ".", ":", "[0-9]", "+"))
	case 7:
		return vari(w.pick("NR", "NF"))
	case 8, 9:
		return of(impl.NkField, w.index())
	}
	return vari(w.scalar())
}

func (w *runs) call(deep int) *tree {
	f := w.dice.below(4)
	if w.strict {
		f %= 3
	}
	call := named(impl.NkCall, []string{"f", "g", "h", "k"}[f], "")
	for _, param := range [][]string{{"p", "q"}, {"r", "p"}, {"p", "r", "q"}, {"no"}}[f] {
		switch {
		case w.dice.below(6) == 0:
			return call
		case param == "r":
			call.kids = append(call.kids, vari(w.array()))
		case w.dice.below(2) == 0:
			call.kids = append(call.kids, vari(w.scalar()))
		default:
			call.kids = append(call.kids, w.expression(deep))
		}
	}
	if w.rarely() {
		call.kids = append(call.kids, w.expression(0))
	}
	return call
}

func (w *runs) target(deep int) *tree {
	switch w.dice.below(5) {
	case 0:
		return named(impl.NkElem, w.array(), "", w.key())
	case 1:
		return of(impl.NkField, w.index())
	}
	return vari(w.scalar())
}

func (w *runs) expression(deep int) *tree {
	if deep <= 0 {
		return w.leaf()
	}
	e := func() *tree { return w.expression(w.dice.below(deep)) }
	kind := w.dice.below(33)
	switch {
	case kind <= impl.NkField:
		return w.leaf()
	case kind == impl.NkElem:
		return named(kind, w.array(), "", w.key())
	case kind == impl.NkIn:
		return named(kind, w.array(), "", w.key())
	case kind == impl.NkSet, kind == impl.NkSetAdd:
		return of(kind, w.target(deep-1), e())
	case kind == impl.NkCond:
		return of(kind, e(), e(), e())
	case kind == impl.NkMatch, kind == impl.NkNoMatch:
		if w.rarely() {
			return of(kind, e(), e())
		}
		return of(kind, e(), rex(w.pick("a", "b|1", "^[0-9]+$", "x.*y")))
	case kind == impl.NkCall:
		return w.call(deep - 1)
	case kind == impl.NkLength:
		return of(kind, [][]*tree{nil, {e()}}[w.dice.below(2)]...)
	case kind == impl.NkSubstr:
		return of(kind, append([]*tree{e(), w.index()}, [][]*tree{nil, {w.index()}}[w.dice.below(2)]...)...)
	case kind == impl.NkSplit:
		return named(kind, "", w.array(), append([]*tree{e()}, [][]*tree{nil, {str(w.pick(":", "", " ", "1"))}}[w.dice.below(2)]...)...)
	case binary(kind), kind == impl.NkIndex:
		return of(kind, e(), e())
	}
	return of(kind, e())
}

// counted is a loop that ends soon, if its body does not change the counter.
func (w *runs) counted(deep int) *tree {
	w.loops++
	i := "i" + strconv.Itoa(w.loops)
	some := num(1 + w.dice.below(3))
	if w.dice.below(2) == 0 {
		return of(impl.NkWhile, of(impl.NkLessEq, of(impl.NkSetAdd, vari(i), num(1)), some), w.statement(deep-1))
	}
	return of(impl.NkFor, of(impl.NkSet, vari(i), num(0)), of(impl.NkLess, vari(i), some), of(impl.NkSetAdd, vari(i), num(1)), w.statement(deep-1))
}

func (w *runs) statement(deep int) *tree {
	e := func() *tree { return w.expression(w.dice.below(4)) }
	if deep <= 0 {
		return do(e())
	}
	switch w.dice.below(24) {
	case 0, 1, 2:
		return of(impl.NkPrint, w.list(0, 2, 2)...)
	case 3:
		if w.rarely() {
			return of(impl.NkPrintf, e(), e())
		}
		return of(impl.NkPrintf, append([]*tree{str(w.pick("%s|", "%3d%%", "x", "%-4s."))}, w.list(0, 2, 2)...)...)
	case 4, 5:
		return of(impl.NkIf, e(), w.statement(deep-1))
	case 6:
		return of(impl.NkIf, e(), block(w.statement(deep-1)), w.statement(deep-1))
	case 7, 8:
		if w.rarely() {
			return of(impl.NkFor, e(), e(), e(), w.statement(deep-1))
		}
		return w.counted(deep)
	case 9, 10:
		return named(impl.NkForIn, w.scalar(), w.array(), w.statement(deep-1))
	case 11:
		return named(impl.NkDelete, w.array(), "", w.key())
	case 12, 13, 14:
		return w.block(deep)
	case 15:
		return w.leave()
	case 16:
		return of(impl.NkIf, e(), w.leave())
	}
	return do(e())
}

func (w *runs) list(least, most, deep int) []*tree {
	var kids []*tree
	for range least + w.dice.below(most-least+1) {
		kids = append(kids, w.expression(deep))
	}
	return kids
}

func (w *runs) leave() *tree {
	switch w.dice.below(8) {
	case 0:
		return of(impl.NkNext)
	case 1:
		return of(impl.NkExit, w.list(0, 1, 1)...)
	case 2, 3:
		return of(impl.NkBreak)
	case 4, 5:
		return of(impl.NkContinue)
	}
	return of(impl.NkReturn, w.list(0, 1, 2)...)
}

func (w *runs) block(deep int) *tree {
	x := block()
	for range 1 + w.dice.below(4) {
		x.kids = append(x.kids, w.statement(deep-1))
	}
	return x
}

func (w *runs) rules() []rule {
	var rules []rule
	for range 1 + w.dice.below(3) {
		b := w.block(4)
		switch w.dice.below(4) {
		case impl.WnBegin:
			rules = append(rules, begin(b))
		case impl.WnEnd:
			rules = append(rules, end(b))
		case impl.WnAll:
			rules = append(rules, rule{when: impl.WnAll, body: b})
		case impl.WnExpr:
			rules = append(rules, when(w.expression(3), b))
		}
	}
	for i, params := range [][]string{{"p", "q"}, {"r", "p"}, {"p", "r", "q"}} {
		if w.dice.below(8) == 0 && !w.strict {
			continue
		}
		w.params = params
		b := w.block(3)
		if w.dice.below(2) == 0 {
			b.kids = append(b.kids, of(impl.NkReturn, w.expression(2)))
		}
		rules = slices.Insert(rules, w.dice.below(len(rules)+1), function([]string{"f", "g", "h"}[i], params, b))
		w.params = nil
	}
	return rules
}

func (w *runs) input() string {
	s := ""
	for range w.dice.below(4) {
		s += w.pick("a", "1 2", "x:y b", "", " 02  3 ", "-1 a 2.5 c", "b\ta", "10 9 8 7 6") + "\n"
	}
	return s
}

// drawnRun compares the runs of one drawn program with the model, with some fuels,
// and returns what it does.
func drawnRun(t *testing.T, seed int) (impl.Prog, trace) {
	t.Helper()
	w := runs{wilds: wilds{dice: treeMaker(seed)}}
	src, input := progText(w.rules()), w.input()
	p, at := impl.Parse(src)
	if at != -1 {
		return impl.Prog{}, trace{} // it is too long
	}
	d := traceOf(p, input, 600)
	last := len(d.printed) - 1
	fuels := []int{last, max(0, last-1)}
	if !d.unfinished() {
		fuels = append(fuels, last+1, last+2, impl.MaxFuel)
	}
	for i := range 5 {
		fuels = append(fuels, i*last/5, w.dice.below(max(1, last+1)))
	}
	for _, fuel := range fuels {
		checkFuel(t, src, p, input, d, max(0, fuel))
	}
	return p, d
}

func TestRunOfDrawnPrograms(t *testing.T) {
	t.Parallel()
	for part := range 5 {
		t.Run(strconv.Itoa(part), func(t *testing.T) {
			t.Parallel()
			codes, kinds := map[int]int{}, map[int]int{}
			for seed := range 600 {
				p, d := drawnRun(t, part*600+seed)
				codes[d.code]++
				for _, k := range d.begun {
					kinds[p.L[k].Kind]++
				}
			}
			for _, code := range []int{impl.RnEnd, impl.RnDivide, impl.RnSingle, impl.RnArray, impl.RnArgs, impl.RnFormat, impl.RnConst} {
				if codes[code] == 0 {
					t.Error(codes)
				}
			}
			for kind := impl.NkNum; kind <= impl.NkBlock; kind++ {
				if kinds[kind] < 5 && (kind <= impl.NkInt || kind >= impl.NkDo) {
					t.Error(kind, kinds[kind])
				}
			}
		})
	}
}
