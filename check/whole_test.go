package check_test

import (
	"math"
	"slices"
	"testing"

	"hindcast/api"
	"hindcast/check"
	"hindcast/names"
)

// grown are programs' trees without faults.
func grown(seed uint64, count int) [][]api.Node {
	g := &grower{d: &dice{seed}}
	var all [][]api.Node
	for range count {
		all = append(all, g.program())
	}
	return all
}

func TestGrownPrograms(t *testing.T) { // P10.1
	expressions := map[uint8]int{}
	for _, l := range grown(7, 2000) {
		if wantAsSaid(t, l) != api.OK {
			t.Error("refused:", shown(l))
		}
		for _, n := range l {
			expressions[n.Kind]++
		}
	}
	for kind := uint8(api.KProg); kind <= api.KMake; kind++ {
		if expressions[kind] < 500 {
			t.Error("too few nodes of the kind", kind, expressions[kind])
		}
	}
}

func TestGrownProgramsWithFaults(t *testing.T) { // P10.1, P0.2
	told := map[api.Errno]int{}
	for _, wrong := range []int{20, 60, 200, 1000} {
		g := &grower{d: &dice{uint64(wrong)}, wrong: wrong}
		for range 800 {
			told[wantAsSaid(t, g.program())]++
		}
	}
	for _, code := range []api.Errno{api.OK, api.ErrType, api.ErrCount, api.ErrName, api.ErrReturn} {
		if told[code] < 10 {
			t.Error("told:", told)
		}
	}
}

func TestShakenPrograms(t *testing.T) { // P10.1, P0.1
	d := &dice{99}
	told := map[api.Errno]int{}
	for _, l := range grown(11, 300) {
		for range 30 {
			told[wantAsSaid(t, d.shaken(l))]++
		}
	}
	for _, code := range []api.Errno{api.OK, api.ErrArg, api.ErrType, api.ErrCount, api.ErrName, api.ErrTwice} {
		if told[code] < 10 {
			t.Error("told:", told)
		}
	}
}

func isExpression(kind uint8) bool { return kind >= api.KInt && kind <= api.KMake }

func TestEachExpressionHasAType(t *testing.T) { // P10.2
	count := 0
	for _, l := range grown(23, 1000) {
		p, _ := check.Check(l)
		for at, n := range p.Nodes {
			if !isExpression(n.Kind) {
				continue
			}
			count++
			is := p.Marks[at].Type
			isAlone := l[at-1].Kind == api.KDo
			isNone := n.Kind == api.KCall && p.Marks[at].Ref >= 0 && p.Fns[p.Marks[at].Ref].Result == api.NoKind
			if is < 0 || is >= len(p.Types) || (is == api.NoKind) != isNone || isNone && !isAlone || (is == api.NilKind) != (n.Kind == api.KNil) {
				t.Errorf("%s: at %d: type %d", shown(l), at, is)
			}
		}
	}
	if count < 20000 {
		t.Error("too few expressions:", count)
	}
}

// statementOf is the point of the statement in which an expression stands.
func statementOf(p api.Prog, at int) int {
	for up := at; ; up-- {
		if kind := p.Nodes[up].Kind; kind >= api.KVar && kind <= api.KDo {
			return p.Marks[up].Point
		}
	}
}

func TestEachExpressionByItself(t *testing.T) { // P10.3
	count := 0
	for _, l := range grown(29, 400) {
		p, _ := check.Check(l)
		for at, n := range p.Nodes {
			if !isExpression(n.Kind) {
				continue
			}
			count++
			end := at + n.Size + 1
			marks, table, fault := check.Expr(p, statementOf(p, at), p.Nodes[at:end])
			if fault != (api.Fault{}) || !slices.Equal(marks, p.Marks[at:end]) || !slices.Equal(table, p.Types) {
				t.Errorf("%s: at %d by itself: %v, %v, %v", shown(l), at, marks, table, fault)
			}
		}
	}
	if count < 10000 {
		t.Error("too few expressions:", count)
	}
}

// expressionsOf are some expressions' trees, right and wrong ones, that know of a program's names.
func (g *grower) expressionsOf(p api.Prog, point, count int) [][]api.Node {
	saw := saidOver(p, nil, nil)
	g.recs, g.fns, g.seen = nil, nil, nil
	for _, rec := range p.Recs {
		r := typed{name: rec.Name}
		for _, field := range p.Fields[rec.From : rec.From+rec.Count] {
			r.params = append(r.params, typed{name: field.Name, is: saw.types[field.Type]})
		}
		g.recs = append(g.recs, r)
	}
	for _, fn := range p.Fns {
		f := typed{name: fn.Name, is: saw.types[fn.Result]}
		for _, param := range p.Slots[fn.At : fn.At+fn.Params] {
			f.params = append(f.params, typed{is: saw.types[param]})
		}
		g.fns = append(g.fns, f)
	}
	for _, v := range names.Seen(p, point) {
		g.seen = append(g.seen, typed{name: v.Name, is: saw.types[p.Slots[p.Fns[v.Fn].At+v.Slot]]})
	}
	if g.isWrong() {
		g.seen = append(g.seen, typed{name: "unseen", is: g.anyType(1)})
		g.fns = append(g.fns, typed{name: "none", is: g.anyType(1)})
		g.recs = append(g.recs, typed{name: "None"})
	}
	var all [][]api.Node
	for range count {
		is := g.d.one("int", "bool", "str", "comp", "nil", "none", g.anyType(3), g.anyType(3))
		all = append(all, g.expression(is, 4).row())
	}
	return all
}

func TestExpressionsAtAllPoints(t *testing.T) { // P10.1
	told := map[api.Errno]int{}
	more := 0
	g := &grower{d: &dice{43}, wrong: 60}
	for _, l := range grown(37, 200) {
		p, _ := check.Check(l)
		for point := range p.Points {
			for _, e := range g.expressionsOf(p, point, 4) {
				told[wantExprAsSaid(t, p, point, e)]++
				if _, table, _ := check.Expr(p, point, e); len(table) > len(p.Types) {
					more++
				}
				// Of another point, or shaken, it may mean something else, or nothing.
				told[wantExprAsSaid(t, p, g.d.below(len(p.Points)), g.d.shaken(e))]++
			}
		}
	}
	for _, code := range []api.Errno{api.OK, api.ErrArg, api.ErrType, api.ErrCount, api.ErrName} {
		if told[code] < 60 {
			t.Error("told:", told)
		}
	}
	if more < 300 {
		t.Error("too few have types that the program has not:", more)
	}
}

// nested is a row of so many times one node, in which the last row stands; each node has others ahead of what is within.
func nested(count int, n api.Node, ahead, inner []api.Node) []api.Node {
	var l []api.Node
	for i := range count {
		n.Size = (count-i)*(1+len(ahead)) - 1 + len(inner)
		n.Line = i
		l = append(l, n)
		l = append(l, ahead...)
	}
	return append(l, inner...)
}

// node is a node with what stands within it.
func node(n api.Node, within ...[]api.Node) []api.Node {
	inner := slices.Concat(within...)
	n.Size = len(inner)
	return append([]api.Node{n}, inner...)
}

// one is a row of one node.
func one(kind uint8) []api.Node { return []api.Node{{Kind: kind}} }

// function is a function of a block without parameters.
func function(name string, result []api.Node, statements ...[]api.Node) []api.Node {
	return node(api.Node{Kind: api.KFn, Text: name, Line: -8, Col: -9}, result, node(api.Node{Kind: api.KBlock}, statements...))
}

// deepProgram has a function f that answers an int, and what is to be looked at in main.
func deepProgram(main ...[]api.Node) []api.Node {
	answer := node(api.Node{Kind: api.KReturn}, one(api.KInt))
	return node(api.Node{Kind: api.KProg}, function("f", one(api.KIntT), answer), function("main", one(api.KNoneT), main...))
}

const deep = 1 << 16

func TestDeepExpressions(t *testing.T) { // P10.1, P0.1
	signs := nested(deep, api.Node{Kind: api.KUn, Num: api.OpNot}, nil, one(api.KBool))
	lefts := nested(deep, api.Node{Kind: api.KBin, Num: api.OpAnd}, nil, append(one(api.KBool), slices.Repeat(one(api.KBool), deep)...))
	rights := nested(deep, api.Node{Kind: api.KBin, Num: api.OpAnd}, one(api.KBool), one(api.KBool))
	for at := range lefts[:deep] {
		lefts[at].Size = 2 * (deep - at)
	}
	rand := nested(deep, api.Node{Kind: api.KCall, Text: "rand"}, nil, node(api.Node{Kind: api.KCall, Text: "f"}))
	for _, e := range [][]api.Node{signs, lefts, rights, rand} {
		p, fault := check.Check(deepProgram(node(api.Node{Kind: api.KPrint}, e)))
		if fault != (api.Fault{}) || p.Marks[len(p.Marks)-1].Type == 0 || p.Marks[len(p.Marks)-len(e)].Type == 0 {
			t.Error("deep:", shown(e), fault)
		}
		marks, table, fault := check.Expr(p, 1, e)
		if fault != (api.Fault{}) || !slices.Equal(marks, p.Marks[len(p.Marks)-len(e):]) || !slices.Equal(table, p.Types) {
			t.Error("deep, by itself:", shown(e), fault)
		}
		// The innermost one is wrong, or no other one is.
		e[len(e)-1] = api.Node{Kind: api.KNil, Line: 77}
		wantFaultOf(t, deepProgram(node(api.Node{Kind: api.KPrint}, e)), wrongInner(e))
		wantExprFault(t, p, 0, e, wrongInner(e))
	}
}

// wrongInner is the fault of a deep expression in which the last node is nil.
func wrongInner(e []api.Node) api.Fault {
	if e[0].Kind != api.KBin {
		return api.Fault{Code: api.ErrType, Line: 77}
	}
	if e[1].Kind == api.KBin { // from the left the last one is the outermost one's
		return api.Fault{Code: api.ErrType, Line: 0}
	}
	return api.Fault{Code: api.ErrType, Line: deep - 1}
}

func TestDeepBlocks(t *testing.T) { // P10.1, P0.1
	ends := node(api.Node{Kind: api.KReturn}, one(api.KInt))
	for _, last := range [][]api.Node{ends, node(api.Node{Kind: api.KPrint}, one(api.KInt))} {
		block := node(api.Node{Kind: api.KBlock}, last)
		// An else within an else, and so on.
		l := block
		var ahead []api.Node
		for range deep {
			ahead = append(ahead, api.Node{Kind: api.KBlock}, api.Node{Kind: api.KIf}, api.Node{Kind: api.KBool}, api.Node{Kind: api.KBlock, Size: 2}, api.Node{Kind: api.KReturn, Size: 1}, api.Node{Kind: api.KInt})
		}
		l = append(ahead, l...)
		for at := range l {
			if kind := l[at].Kind; kind == api.KIf || at%6 == 0 && kind == api.KBlock {
				l[at].Size = len(l) - at - 1
			}
		}
		l = node(api.Node{Kind: api.KProg}, node(api.Node{Kind: api.KFn, Text: "g", Line: 4, Col: 5}, one(api.KIntT), l), function("main", one(api.KNoneT)))
		p, fault := check.Check(l)
		if last[0].Kind == api.KPrint {
			wantFaultOf(t, l, api.Fault{Code: api.ErrReturn, Line: 4, Col: 5})
		} else if fault != (api.Fault{}) || len(p.Points) != 2*deep+1 {
			t.Error("deep blocks:", fault, len(p.Points))
		}
	}
}

func TestDeepTypes(t *testing.T) { // P10.1, P0.1
	lists := nested(deep, api.Node{Kind: api.KListT}, nil, one(api.KCompT))
	maker := node(api.Node{Kind: api.KMake}, lists, one(api.KInt))
	e := nested(deep-1, api.Node{Kind: api.KIndex}, nil, append(slices.Clone(maker), slices.Repeat(one(api.KInt), deep-1)...))
	for at := range e[:deep-1] {
		e[at].Size = len(maker) + 2*(deep-1-at) - 1
	}
	p, fault := check.Check(deepProgram(node(api.Node{Kind: api.KDo}, node(api.Node{Kind: api.KCall, Text: "f"}))))
	marks, table, gone := check.Expr(p, 1, e)
	if fault != (api.Fault{}) || gone != (api.Fault{}) || len(table) != len(p.Types)+deep {
		t.Fatal("deep lists:", fault, gone, len(table))
	}
	if marks[0].Type != 6 || marks[1].Type != 7 || marks[deep-1].Type != 5+deep || marks[deep].Type != 5+deep || marks[2*deep].Type != api.CompKind {
		t.Error("deep lists:", marks[0], marks[1], marks[deep-1])
	}
}

// behindIt is a list with room behind its end, that is filled; it tells whether that and the list stay.
func behindIt[of comparable](l []of, filler of) (handed []of, stays func() bool) {
	room := append(slices.Clone(l), filler, filler, filler)
	was := slices.Clone(room)
	return room[:len(l)], func() bool { return slices.Equal(room, was) }
}

// spoil writes into each list of a program, and behind its end.
func spoil(p api.Prog) {
	clear(p.Nodes)
	clear(p.Marks)
	clear(p.Types)
	clear(p.Recs)
	clear(p.Fields)
	clear(p.Fns)
	clear(p.Slots)
	clear(p.Vars)
	clear(p.Points)
	_ = append(p.Nodes, api.Node{Kind: 77})
	_ = append(p.Marks, api.Mark{Type: 77})
	_ = append(p.Types, api.Type{Kind: 77})
	_ = append(p.Fields, api.Field{Name: "spoilt"})
	_ = append(p.Slots, 77)
	_ = append(p.Vars, api.Var{Name: "spoilt"})
}

func TestTreesStay(t *testing.T) { // P0.3, P0.5
	for _, l := range append(grown(41, 200), nil, treeOf(t, "fn main() { print 1 + true; }"), treeOf(t, "fn f() {}")) {
		handed, stays := behindIt(l, api.Node{Kind: api.KReturn, Text: "filler"})
		p, fault := check.Check(handed)
		again, sameFault := check.Check(handed)
		if !stays() || fault != sameFault || !same(p, again) {
			t.Errorf("%s: it stays: %v, answered again: %v", shown(l), stays(), same(p, again))
		}
		clear(handed)
		if !same(p, again) || len(p.Nodes) > 0 && p.Nodes[0].Kind != api.KProg {
			t.Errorf("%s: what was handed in is kept", shown(l))
		}
		spoil(p)
		if third, _ := check.Check(l); !same(third, again) {
			t.Errorf("%s: an answer isn't new memory", shown(l))
		}
	}
}

// roomy is a program whose lists have room behind their ends; it tells whether they stay.
func roomy(p api.Prog) (api.Prog, func() bool) {
	var stays [9]func() bool
	p.Nodes, stays[0] = behindIt(p.Nodes, api.Node{Kind: 66})
	p.Marks, stays[1] = behindIt(p.Marks, api.Mark{Type: 66})
	p.Types, stays[2] = behindIt(p.Types, api.Type{Kind: 66})
	p.Recs, stays[3] = behindIt(p.Recs, api.Rec{Name: "Filler"})
	p.Fields, stays[4] = behindIt(p.Fields, api.Field{Name: "filler"})
	p.Fns, stays[5] = behindIt(p.Fns, api.Fn{Name: "filler"})
	p.Slots, stays[6] = behindIt(p.Slots, 66)
	p.Vars, stays[7] = behindIt(p.Vars, api.Var{Name: "filler"})
	p.Points, stays[8] = behindIt(p.Points, api.Point{Fn: 66})
	return p, func() bool {
		return !slices.ContainsFunc(stays[:], func(stay func() bool) bool { return !stay() })
	}
}

func TestProgramsStay(t *testing.T) { // P0.3, P0.5
	g := &grower{d: &dice{51}, wrong: 200}
	for _, l := range grown(47, 100) {
		p, _ := check.Check(l)
		handed, stays := roomy(p)
		for point := range p.Points {
			for _, e := range g.expressionsOf(p, point, 2) {
				row, stay := behindIt(e, api.Node{Kind: api.KReturn})
				marks, table, fault := check.Expr(handed, point, row)
				wasMarks, wasTable := slices.Clone(marks), slices.Clone(table)
				again, tableAgain, faultAgain := check.Expr(handed, point, row)
				clear(marks)
				clear(table)
				_, _ = append(marks, api.Mark{Type: 55}), append(table, api.Type{Kind: 55})
				if !stays() || !stay() || fault != faultAgain || !slices.Equal(again, wasMarks) || !slices.Equal(tableAgain, wasTable) {
					t.Fatalf("%s at %d: the program stays: %v, the expression: %v", shown(e), point, stays(), stay())
				}
			}
		}
	}
}

func TestNoSuchPoint(t *testing.T) { // P10.1, P0.1, P0.2
	for _, l := range append(grown(53, 30), treeOf(t, "fn main() {}")) {
		p, _ := check.Check(l)
		for _, point := range []int{math.MinInt, -1 << 32, -2, -1, len(p.Points), len(p.Points) + 1, 1 << 32, math.MaxInt} {
			// The second one has another fault, too, and the third one is none.
			for _, e := range [][]api.Node{one(api.KInt), exprOf(t, "unseen + 1"), nil} {
				wantExprFault(t, p, point, e, api.Fault{Code: api.ErrArg})
			}
		}
	}
	for _, point := range []int{-1, 0, 1} {
		wantExprFault(t, api.Prog{}, point, one(api.KInt), api.Fault{Code: api.ErrArg})
	}
}
