package tests

import (
	"runtime/debug"
	"slices"
	"strconv"
	"strings"
	"testing"

	"loop.example/g00700/impl"
)

// TestMain collects garbage less often, because the tests of programs make much
// of it.
func TestMain(m *testing.M) {
	debug.SetGCPercent(400)
	m.Run()
}

// What the tests of several layers need of programs: trees in place of lists of
// nodes, their canonical text, and texts with few parentheses.

type tree struct {
	kind int
	s, t string
	n    int
	kids []*tree
}

type rule struct {
	when   int
	name   string
	params []string
	cond   *tree
	body   *tree
}

func num(n int) *tree     { return &tree{kind: impl.NkNum, n: n * impl.One} }
func str(s string) *tree  { return &tree{kind: impl.NkStr, s: s} }
func rex(s string) *tree  { return &tree{kind: impl.NkRe, s: s} }
func vari(s string) *tree { return &tree{kind: impl.NkVar, s: s} }

func of(kind int, kids ...*tree) *tree { return &tree{kind: kind, kids: kids} }

// named is a node with a string; for NkForIn and NkSplit T is set, too.
func named(kind int, s, t string, kids ...*tree) *tree {
	return &tree{kind: kind, s: s, t: t, kids: kids}
}

func do(e *tree) *tree             { return of(impl.NkDo, e) }
func block(kids ...*tree) *tree    { return of(impl.NkBlock, kids...) }
func always(kids ...*tree) rule    { return rule{when: impl.WnAll, body: block(kids...)} }
func when(e *tree, b *tree) rule   { return rule{when: impl.WnExpr, cond: e, body: b} }
func begin(b *tree) rule           { return rule{when: impl.WnBegin, body: b} }
func end(b *tree) rule             { return rule{when: impl.WnEnd, body: b} }
func isStatement(kind int) bool    { return kind >= impl.NkDo }
func binary(kind int) bool         { return level(kind) >= 3 && level(kind) <= 10 && kind != impl.NkIn }
func progText(rules []rule) string { return strings.Join(ruleTexts(rules), "") }

func function(name string, params []string, b *tree) rule {
	return rule{when: impl.WnFunc, name: name, params: params, body: b}
}

// addTree appends the nodes of a tree in the order of their completion.
func addTree(l []impl.Node, x *tree) []impl.Node {
	n := impl.Node{Kind: x.kind, S: x.s, T: x.t, N: x.n}
	for _, kid := range x.kids {
		l = addTree(l, kid)
		n.Kids = append(n.Kids, len(l)-1)
	}
	return append(l, n)
}

func progOf(rules ...rule) impl.Prog {
	var p impl.Prog
	for _, r := range rules {
		item := impl.Item{When: r.when, Name: r.name, Params: r.params, Cond: -1}
		if r.cond != nil {
			p.L = addTree(p.L, r.cond)
			item.Cond = len(p.L) - 1
		}
		p.L = addTree(p.L, r.body)
		item.Body = len(p.L) - 1
		p.Items = append(p.Items, item)
	}
	return p
}

func treeIn(p impl.Prog, k int) *tree {
	n := p.L[k]
	x := &tree{kind: n.Kind, s: n.S, t: n.T, n: n.N}
	for _, kid := range n.Kids {
		x.kids = append(x.kids, treeIn(p, kid))
	}
	return x
}

// rulesOf is the reverse of progOf.
func rulesOf(p impl.Prog) []rule {
	var rules []rule
	for _, item := range p.Items {
		r := rule{when: item.When, name: item.Name, params: item.Params, body: treeIn(p, item.Body)}
		if item.Cond >= 0 {
			r.cond = treeIn(p, item.Cond)
		}
		rules = append(rules, r)
	}
	return rules
}

func equalNodes(a, b impl.Node) bool {
	return a.Kind == b.Kind && a.S == b.S && a.T == b.T && a.N == b.N && slices.Equal(a.Kids, b.Kids)
}

func equalItems(a, b impl.Item) bool {
	return a.When == b.When && a.Name == b.Name && slices.Equal(a.Params, b.Params) && a.Cond == b.Cond && a.Body == b.Body
}

func equalProgs(a, b impl.Prog) bool {
	return slices.EqualFunc(a.L, b.L, equalNodes) && slices.EqualFunc(a.Items, b.Items, equalItems)
}

// signTexts are the signs of the nodes with two kids that stand around them.
var signTexts = map[int]string{
	impl.NkSet: " = ", impl.NkSetAdd: " += ", impl.NkOr: " || ", impl.NkAnd: " && ", impl.NkMatch: " ~ ", impl.NkNoMatch: " !~ ",
	impl.NkLess: " < ", impl.NkLessEq: " <= ", impl.NkSame: " == ", impl.NkUnlike: " != ", impl.NkCat: " ",
	impl.NkPlus: " + ", impl.NkMinus: " - ", impl.NkTimes: " * ", impl.NkDivide: " / ", impl.NkRest: " % ",
}

var wordTexts = map[int]string{
	impl.NkLength: "length", impl.NkSubstr: "substr", impl.NkIndex: "index", impl.NkUpper: "toupper", impl.NkInt: "int",
	impl.NkPrint: "print", impl.NkPrintf: "printf", impl.NkBreak: "break", impl.NkContinue: "continue", impl.NkNext: "next",
	impl.NkExit: "exit", impl.NkReturn: "return",
}

func quoted(s string) string {
	return `"` + strings.NewReplacer(`\`, `\\`, `"`, `\"`, "\n", `\n`, "\t", `\t`).Replace(s) + `"`
}

func numText(n int) string {
	text := strconv.Itoa(n/impl.One) + "." + strconv.Itoa(n%impl.One + impl.One)[1:]
	return strings.TrimSuffix(strings.TrimRight(text, "0"), ".")
}

func kidTexts(x *tree) []string {
	var texts []string
	for _, kid := range x.kids {
		texts = append(texts, text(kid))
	}
	return texts
}

// text is the canonical text of an expression or a statement (chapter 5).
func text(x *tree) string {
	if isStatement(x.kind) {
		return statementText(x)
	}
	k := kidTexts(x)
	list := "(" + strings.Join(k, ", ") + ")"
	switch x.kind {
	case impl.NkNum:
		return numText(x.n)
	case impl.NkStr:
		return quoted(x.s)
	case impl.NkRe:
		return "(/" + x.s + "/)"
	case impl.NkVar:
		return x.s
	case impl.NkField:
		return "$(" + k[0] + ")"
	case impl.NkElem:
		return x.s + "[" + k[0] + "]"
	case impl.NkIn:
		return "(" + k[0] + " in " + x.s + ")"
	case impl.NkCond:
		return "(" + k[0] + " ? " + k[1] + " : " + k[2] + ")"
	case impl.NkNot:
		return "(!" + k[0] + ")"
	case impl.NkNeg:
		return "(-" + k[0] + ")"
	case impl.NkCall:
		return x.s + list
	case impl.NkSplit:
		return "split(" + strings.Join(slices.Insert(k, 1, x.t), ", ") + ")"
	}
	if sign := signTexts[x.kind]; sign != "" {
		return "(" + k[0] + sign + k[1] + ")"
	}
	return wordTexts[x.kind] + list
}

func statementText(x *tree) string {
	k := kidTexts(x)
	switch x.kind {
	case impl.NkDo:
		return k[0] + ";"
	case impl.NkIf:
		s := "if (" + k[0] + ") " + k[1]
		if len(k) == 3 {
			s += " else " + k[2]
		}
		return s
	case impl.NkWhile:
		return "while (" + k[0] + ") " + k[1]
	case impl.NkFor:
		return "for (" + k[0] + "; " + k[1] + "; " + k[2] + ") " + k[3]
	case impl.NkForIn:
		return "for (" + x.s + " in " + x.t + ") " + k[0]
	case impl.NkDelete:
		return "delete " + x.s + "[" + k[0] + "];"
	case impl.NkBlock:
		s := "{ "
		for _, kid := range k {
			s += kid + " "
		}
		return s + "}"
	}
	if len(k) == 0 {
		return wordTexts[x.kind] + ";"
	}
	return wordTexts[x.kind] + " " + strings.Join(k, ", ") + ";"
}

func ruleTexts(rules []rule) []string {
	var texts []string
	for _, r := range rules {
		s := ""
		switch r.when {
		case impl.WnBegin:
			s = "BEGIN "
		case impl.WnEnd:
			s = "END "
		case impl.WnExpr:
			s = text(r.cond) + " "
		case impl.WnFunc:
			s = "function " + r.name + "(" + strings.Join(r.params, ", ") + ") "
		}
		texts = append(texts, s+text(r.body)+"\n")
	}
	return texts
}

// level is the level of the grammar that a kind of expression belongs to, from
// the loosest, 1, to a primary, 12.
func level(kind int) int {
	switch kind {
	case impl.NkSet, impl.NkSetAdd:
		return 1
	case impl.NkCond:
		return 2
	case impl.NkOr:
		return 3
	case impl.NkAnd:
		return 4
	case impl.NkIn:
		return 5
	case impl.NkMatch, impl.NkNoMatch:
		return 6
	case impl.NkLess, impl.NkLessEq, impl.NkSame, impl.NkUnlike:
		return 7
	case impl.NkCat:
		return 8
	case impl.NkPlus, impl.NkMinus:
		return 9
	case impl.NkTimes, impl.NkDivide, impl.NkRest:
		return 10
	case impl.NkNot, impl.NkNeg:
		return 11
	}
	return 12
}

// spare prints trees as tokens, with parentheses where the grammar needs them;
// if it is loose, also now and then elsewhere; and if it is full, wherever the
// canonical text has them.
type spare struct {
	dice  treeMaker
	loose bool
	full  bool
	toks  []string
	// The depth that the grammar counts, and the index of the token at which it
	// first exceeds MaxDeep, or -1.
	deep, over int
}

func (w *spare) put(toks ...string) { w.toks = append(w.toks, toks...) }

func (w *spare) deeper(print func()) {
	w.deep++
	if w.deep > impl.MaxDeep && w.over < 0 {
		w.over = len(w.toks)
	}
	print()
	w.deep--
}

func (w *spare) expression(x *tree) {
	w.deeper(func() { w.at(x, 1) })
}

func (w *spare) group(open string, x *tree, shut string) {
	w.put(open)
	w.expression(x)
	w.put(shut)
}

// at prints an expression where the grammar has that level.
func (w *spare) at(x *tree, least int) {
	switch {
	case w.full && (level(x.kind) < 12 || x.kind == impl.NkRe):
		w.put("(")
		w.deeper(func() { w.bare(x) })
		w.put(")")
	case level(x.kind) < least || w.loose && w.dice.below(20) == 0:
		w.group("(", x, ")")
	default:
		w.bare(x)
	}
}

func (w *spare) bare(x *tree) {
	switch {
	case binary(x.kind):
		w.joined(x)
	case level(x.kind) < 12:
		w.loosely(x)
	default:
		w.primary(x)
	}
}

// guarded prints what must not begin with one of these bytes.
func (w *spare) guarded(x *tree, least int, not string) {
	start, over := len(w.toks), w.over
	w.at(x, least)
	if strings.Contains(not, w.toks[start][:1]) {
		w.toks, w.over = w.toks[:start], over
		w.group("(", x, ")")
	}
}

func (w *spare) joined(x *tree) {
	own := level(x.kind)
	if own == level(impl.NkLess) {
		w.at(x.kids[0], own+1)
	} else {
		w.at(x.kids[0], own)
	}
	if x.kind == impl.NkCat {
		w.guarded(x.kids[1], own+1, "-!/")
		return
	}
	w.put(strings.TrimSpace(signTexts[x.kind]))
	w.at(x.kids[1], own+1)
}

func (w *spare) loosely(x *tree) {
	switch x.kind {
	case impl.NkSet, impl.NkSetAdd:
		w.at(x.kids[0], 12)
		w.put(strings.TrimSpace(signTexts[x.kind]))
		w.expression(x.kids[1])
	case impl.NkCond:
		w.at(x.kids[0], 3)
		w.put("?")
		w.expression(x.kids[1])
		w.put(":")
		w.expression(x.kids[2])
	case impl.NkIn:
		w.at(x.kids[0], 5)
		w.put("in", x.s)
	case impl.NkNot:
		w.put("!")
		w.deeper(func() { w.at(x.kids[0], 11) })
	case impl.NkNeg:
		w.put("-")
		w.deeper(func() { w.at(x.kids[0], 11) })
	}
}

func (w *spare) primary(x *tree) {
	switch x.kind {
	case impl.NkNum:
		w.put(numText(x.n))
	case impl.NkStr:
		w.put(quoted(x.s))
	case impl.NkRe:
		w.put("/" + x.s + "/")
	case impl.NkVar:
		w.put(x.s)
	case impl.NkElem:
		w.put(x.s)
		w.group("[", x.kids[0], "]")
	case impl.NkField:
		w.put("$")
		w.deeper(func() { w.selector(x.kids[0]) })
	case impl.NkSplit:
		w.put("split", "(")
		w.list(x.kids[:1])
		w.put(",", x.t)
		if len(x.kids) == 2 {
			w.put(",")
			w.list(x.kids[1:])
		}
		w.put(")")
	case impl.NkCall:
		w.put(x.s + "(")
		w.list(x.kids)
		w.put(")")
	default:
		w.put(wordTexts[x.kind], "(")
		w.list(x.kids)
		w.put(")")
	}
}

func (w *spare) selector(x *tree) {
	if w.full {
		w.group("(", x, ")")
	} else {
		w.at(x, 12)
	}
}

func (w *spare) list(kids []*tree) {
	for i, kid := range kids {
		if i > 0 {
			w.put(",")
		}
		w.expression(kid)
	}
}

func (w *spare) statement(x *tree) {
	w.deeper(func() { w.anyStatement(x) })
}

func (w *spare) anyStatement(x *tree) {
	switch x.kind {
	case impl.NkBlock:
		w.block(x)
		return
	case impl.NkIf:
		w.put("if")
		w.group("(", x.kids[0], ")")
		w.statement(x.kids[1])
		if len(x.kids) == 3 {
			w.put("else")
			w.statement(x.kids[2])
		}
		return
	case impl.NkWhile:
		w.put("while")
		w.group("(", x.kids[0], ")")
		w.statement(x.kids[1])
		return
	case impl.NkFor:
		w.put("for")
		w.group("(", x.kids[0], ";")
		w.expression(x.kids[1])
		w.group(";", x.kids[2], ")")
		w.statement(x.kids[3])
		return
	case impl.NkForIn:
		w.put("for", "(", x.s, "in", x.t, ")")
		w.statement(x.kids[0])
		return
	}
	w.simple(x)
	w.put(";")
}

func (w *spare) simple(x *tree) {
	switch x.kind {
	case impl.NkDo:
		not := ""
		if w.toks[len(w.toks)-1] == ")" {
			not = "/" // it would divide
		}
		w.deeper(func() { w.guarded(x.kids[0], 1, not) })
	case impl.NkDelete:
		w.put("delete", x.s)
		w.group("[", x.kids[0], "]")
	default:
		w.put(wordTexts[x.kind])
		w.list(x.kids)
	}
}

func (w *spare) block(x *tree) {
	w.put("{")
	for _, kid := range x.kids {
		w.statement(kid)
	}
	w.put("}")
}

func (w *spare) rule(r rule) {
	switch r.when {
	case impl.WnBegin:
		w.put("BEGIN")
	case impl.WnEnd:
		w.put("END")
	case impl.WnExpr:
		w.expression(r.cond)
	case impl.WnFunc:
		w.put("function", r.name, "(")
		for i, param := range r.params {
			if i > 0 {
				w.put(",")
			}
			w.put(param)
		}
		w.put(")")
	}
	w.block(r.body)
}

// source joins the tokens, and returns the offset of the one where the depth is
// exceeded, or -1. The parentheses behind a length without a kid may go where
// what follows cannot be taken for them.
func (w *spare) source() (string, int) {
	var b strings.Builder
	over := -1
	for i := 0; i < len(w.toks); i++ {
		if i == w.over {
			over = b.Len()
		}
		b.WriteString(w.toks[i])
		if w.loose {
			b.WriteString([]string{" ", " ", "\n", " # x\n", "\t"}[w.dice.below(5)])
		} else {
			b.WriteByte(' ')
		}
		if w.loose && w.toks[i] == "length" && w.toks[i+2] == ")" && w.toks[i+3] != "(" && w.toks[i+3] != "/" {
			i += 2
		}
	}
	return b.String(), over
}

func spareText(seed int, loose bool, rules []rule) (string, int) {
	w := spare{dice: treeMaker(seed), loose: loose, over: -1}
	for _, r := range rules {
		w.rule(r)
	}
	return w.source()
}

// textOver returns the offset in the canonical text of the token where the depth
// is exceeded, or -1.
func textOver(t *testing.T, rules []rule) int {
	t.Helper()
	w := spare{full: true, over: -1}
	for _, r := range rules {
		w.rule(r)
	}
	whole, at, over := progText(rules), 0, -1
	for i, tok := range w.toks {
		at = len(whole) - len(strings.TrimLeft(whole[at:], " \n"))
		if i == w.over {
			over = at
		}
		if !strings.HasPrefix(whole[at:], tok) {
			t.Fatalf("token %d of the text %q is not %q", i, whole, tok)
		}
		at += len(tok)
	}
	return over
}

// wilds makes trees.
type wilds struct {
	dice treeMaker
}

func (w *wilds) pick(from ...string) string { return from[w.dice.below(len(from))] }

func (w *wilds) name() string {
	return w.pick("x", "y", "_z", "A", "NF", "in_", strings.Repeat("n", 40))
}

// expression makes one with at most about deep expressions inside each other.
func (w *wilds) expression(deep int) *tree {
	if deep <= 0 {
		switch w.dice.below(6) {
		case 0:
			return num(w.dice.below(3))
		case 1:
			return &tree{kind: impl.NkNum, n: []int{1, 500000, 1500001, 8999999999999, impl.MaxDec}[w.dice.below(5)]}
		case 2:
			return str(w.pick("", "s", "a b", "\"\\\n\t", "\xff", "in", "(", "}", ";"))
		case 3:
			return rex(w.pick("", "r", "a|b", `\/`, `"`, "(", "+"))
		}
		return vari(w.name())
	}
	kind := w.dice.below(33)
	kid := func() *tree { return w.expression(w.dice.below(deep)) }
	switch {
	case kind <= impl.NkVar:
		return w.expression(0)
	case kind == impl.NkElem:
		return named(kind, w.name(), "", kid())
	case kind == impl.NkIn:
		return named(kind, w.name(), "", kid())
	case kind == impl.NkSet, kind == impl.NkSetAdd:
		return of(kind, w.targetTree(deep-1), kid())
	case kind == impl.NkCond:
		return of(kind, kid(), kid(), kid())
	case kind == impl.NkCall:
		return &tree{kind: kind, s: w.name(), kids: w.list(0, 3, deep-1)}
	case kind == impl.NkSplit:
		return &tree{kind: kind, t: w.name(), kids: w.list(1, 2, deep-1)}
	case binary(kind), kind == impl.NkIndex:
		return of(kind, kid(), kid())
	case kind == impl.NkLength:
		return of(kind, w.list(0, 1, deep-1)...)
	case kind == impl.NkSubstr:
		return of(kind, w.list(2, 3, deep-1)...)
	}
	return of(kind, kid())
}

func (w *wilds) targetTree(deep int) *tree {
	switch w.dice.below(3) {
	case 0:
		return named(impl.NkElem, w.name(), "", w.expression(deep))
	case 1:
		return of(impl.NkField, w.expression(deep))
	}
	return vari(w.name())
}

func (w *wilds) list(least, most, deep int) []*tree {
	var kids []*tree
	for range least + w.dice.below(most-least+1) {
		kids = append(kids, w.expression(deep))
	}
	return kids
}

func (w *wilds) statement(deep int) *tree {
	kind := impl.NkDo + w.dice.below(14)
	if deep <= 0 && kind != impl.NkPrint && kind != impl.NkPrintf && kind != impl.NkExit && kind != impl.NkReturn {
		kind = []int{impl.NkDo, impl.NkBreak, impl.NkContinue, impl.NkNext, impl.NkDelete}[w.dice.below(5)]
	}
	e := func() *tree { return w.expression(w.dice.below(4)) }
	s := func() *tree { return w.statement(deep - 1) }
	switch kind {
	case impl.NkDo:
		return do(e())
	case impl.NkPrint:
		return of(kind, w.list(0, 3, 2)...)
	case impl.NkPrintf:
		return of(kind, w.list(1, 3, 2)...)
	case impl.NkIf:
		if w.dice.below(2) == 0 {
			return of(kind, e(), s())
		}
		return of(kind, e(), closed(s()), s())
	case impl.NkWhile:
		return of(kind, e(), s())
	case impl.NkFor:
		return of(kind, e(), e(), e(), s())
	case impl.NkForIn:
		return named(kind, w.name(), w.name(), s())
	case impl.NkExit, impl.NkReturn:
		return of(kind, w.list(0, 1, 2)...)
	case impl.NkDelete:
		return named(kind, w.name(), "", e())
	case impl.NkBlock:
		return w.block(deep - 1)
	}
	return of(kind)
}

func (w *wilds) block(deep int) *tree {
	x := block()
	for range w.dice.below(4) {
		x.kids = append(x.kids, w.statement(deep))
	}
	return x
}

// closed returns a statement behind which else belongs to an outer if.
func closed(x *tree) *tree {
	for s := x; ; s = s.kids[len(s.kids)-1] {
		switch {
		case s.kind == impl.NkIf && len(s.kids) == 2:
			return block(x)
		case s.kind < impl.NkIf || s.kind > impl.NkForIn:
			return x
		}
	}
}

func (w *wilds) rules() []rule {
	var rules []rule
	for range w.dice.below(4) {
		b := w.block(3)
		switch w.dice.below(5) {
		case impl.WnBegin:
			rules = append(rules, begin(b))
		case impl.WnEnd:
			rules = append(rules, end(b))
		case impl.WnAll:
			rules = append(rules, rule{when: impl.WnAll, body: b})
		case impl.WnExpr:
			rules = append(rules, when(w.expression(4), b))
		case impl.WnFunc:
			params := []string{"p", w.name(), w.name()}
			rules = append(rules, function(w.name(), params[:w.dice.below(4)], b))
		}
	}
	return rules
}

// checkWhole checks promise 4: every node follows its kids, and belongs to
// exactly one other node or item.
func checkWhole(t *testing.T, src string, p impl.Prog) {
	t.Helper()
	owners := make([]int, len(p.L))
	for k, n := range p.L {
		for _, kid := range n.Kids {
			if kid < 0 || kid >= k {
				t.Fatalf("%q: node %d has the kid %d", src, k, kid)
			}
			owners[kid]++
		}
	}
	for _, item := range p.Items {
		if item.Cond >= 0 {
			owners[item.Cond]++
		}
		owners[item.Body]++
	}
	for k, count := range owners {
		if count != 1 {
			t.Fatalf("%q: node %d belongs to %d nodes and items", src, k, count)
		}
	}
}
