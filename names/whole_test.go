package names_test

import (
	"slices"
	"strings"
	"testing"

	"hindcast/api"
	"hindcast/names"
)

// blocks are all blocks of so many statements, as texts; their expressions are of a alone.
func blocks(count int) []string {
	if count == 0 {
		return []string{""}
	}
	var all []string
	for first := 1; first <= count; first++ {
		var begins []string
		if first == 1 {
			begins = []string{"var a: int = 1; ", "var a: int = a; ", "var b: [int] = a; ", "print a; "}
		}
		for _, inner := range blocks(first - 1) {
			begins = append(begins, "while a { "+inner+"} ", "if true {} else { "+inner+"} ")
		}
		rests := blocks(count - first)
		for _, begin := range begins {
			for _, rest := range rests {
				all = append(all, begin+rest)
			}
		}
	}
	return all
}

func TestAllShortBlocks(t *testing.T) { // P9.1, P9.2
	well := 0
	for count := range 5 {
		for _, block := range blocks(count) {
			for _, head := range []string{"fn main() { ", "fn main() {} fn f(a: str) { ", "fn f(c: int) { print c; } fn main() { var a: bool = true; "} {
				if wantAsSaid(t, treeOf(t, head+block+"}")) {
					well++
				}
			}
		}
	}
	if well < 3000 {
		t.Error("too few of them are without a fault:", well)
	}
}

// grown are programs' trees without faults.
func grown(seed uint64, count int) [][]api.Node {
	g := &grower{d: &dice{seed}}
	var all [][]api.Node
	for range count {
		all = append(all, g.program())
	}
	return all
}

func TestGrownPrograms(t *testing.T) { // P9.1
	statements := 0
	for _, l := range grown(7, 3000) {
		if !wantAsSaid(t, l) {
			t.Error("refused:", shown(l))
		}
		statements += strings.Count(kinds(l), "s")
	}
	if statements < 30000 {
		t.Error("too few statements:", statements)
	}
}

// kinds has a letter for each node: s for a statement's.
func kinds(l []api.Node) string {
	var b strings.Builder
	for _, n := range l {
		if isStatement(n.Kind) {
			b.WriteByte('s')
		} else {
			b.WriteByte('.')
		}
	}
	return b.String()
}

func TestGrownProgramsWithFaults(t *testing.T) { // P9.1, P0.2
	told := map[api.Errno]int{}
	for _, wrong := range []int{3, 10, 40, 150} {
		g := &grower{d: &dice{uint64(wrong)}, wrong: wrong}
		for range 3000 {
			l := g.program()
			wantAsSaid(t, l)
			_, fault := names.Resolve(l)
			told[fault.Code]++
		}
	}
	for _, code := range []api.Errno{api.OK, api.ErrTwice, api.ErrName, api.ErrMain} {
		if told[code] < 300 {
			t.Error("told:", told)
		}
	}
}

func TestShakenPrograms(t *testing.T) { // P9.1, P0.1
	d := &dice{99}
	told := map[api.Errno]int{}
	for _, l := range grown(11, 400) {
		for range 20 {
			shaken := d.shaken(l)
			wantAsSaid(t, shaken)
			_, fault := names.Resolve(shaken)
			told[fault.Code]++
		}
	}
	for _, code := range []api.Errno{api.OK, api.ErrArg, api.ErrTwice, api.ErrName} {
		if told[code] < 30 {
			t.Error("told:", told)
		}
	}
}

func TestEachHasItsOwn(t *testing.T) { // P9.2
	for _, l := range grown(23, 1000) {
		p, _ := names.Resolve(l)
		points, slots := map[int]int{}, map[[2]int]int{}
		fn := -1
		for at, n := range l {
			if n.Kind == api.KFn {
				fn++
			}
			if isStatement(n.Kind) {
				point := p.Marks[at].Point
				points[point]++
				if p.Points[point] != (api.Point{Fn: fn, Node: at, Line: n.Line, Col: n.Col}) {
					t.Errorf("%s: point %d: %v", shown(l), point, p.Points[point])
				}
			}
			if n.Kind == api.KVar {
				slots[[2]int{fn, p.Marks[at].Ref}]++
			}
		}
		for number, fn := range p.Fns {
			for param := range fn.Params {
				slots[[2]int{number, param}]++
			}
		}
		wantOnce(t, l, points, len(p.Points))
		wantOnce(t, l, slots, len(p.Slots))
		if len(p.Vars) != len(p.Slots) {
			t.Errorf("%s: %d names of %d slots", shown(l), len(p.Vars), len(p.Slots))
		}
	}
}

// wantOnce asks for so many, each of which is there once.
func wantOnce[of comparable](t *testing.T, l []api.Node, counts map[of]int, want int) {
	t.Helper()
	if len(counts) != want {
		t.Errorf("%s: %d, want %d", shown(l), len(counts), want)
	}
	for what, count := range counts {
		if count != 1 {
			t.Errorf("%s: %v is there %d times", shown(l), what, count)
		}
	}
}

// meaning are the nodes of a program's function that mean a slot of it, its own one, too.
func meaning(p api.Prog, v api.Var) []int {
	fn := p.Fns[v.Fn]
	var all []int
	param := 0
	for at := fn.Node; at <= fn.Node+p.Nodes[fn.Node].Size; at++ {
		switch p.Nodes[at].Kind {
		case api.KParam:
			if param == v.Slot {
				all = append(all, at)
			}
			param++
		case api.KVar, api.KName:
			if p.Marks[at].Ref == v.Slot {
				all = append(all, at)
			}
		}
	}
	return all
}

func TestOtherNames(t *testing.T) { // P9.3
	uses := 0
	for _, l := range grown(31, 600) {
		p, _ := names.Resolve(l)
		for place, v := range p.Vars {
			for _, name := range []string{"z", "main", "text", "_", "aa"} {
				renamed := slices.Clone(l)
				for _, at := range meaning(p, v) {
					renamed[at].Text = name
					uses++
				}
				want := p
				want.Nodes, want.Vars = renamed, slices.Clone(p.Vars)
				want.Vars[place].Name = name
				if got, fault := names.Resolve(renamed); fault != (api.Fault{}) || !same(got, want) {
					t.Fatalf("%s: %s in place of %v: %s, %v", shown(l), name, v, shown(got), fault)
				}
			}
		}
	}
	if uses < 10000 {
		t.Error("too few nodes were renamed:", uses)
	}
}

func TestNamesOfAllByHand(t *testing.T) { // P9.3
	one := programOf(t, "fn f(a: int): int { var b: int = a; if true { var a: int = a + b; b = a; f(a); } return a; } fn main() {}")
	other := programOf(t, "fn f(b: int): int { var c: int = b; if true { var x: int = b + c; c = x; f(x); } return b; } fn main() {}")
	for place, name := range []string{"b", "c", "x"} {
		one.Vars[place].Name = name
	}
	one.Nodes = other.Nodes
	if !same(one, other) {
		t.Errorf("%+v and\n%+v", one, other)
	}
}

// nested is a row of so many times one node, in which the last row stands; each node has others ahead of what is within.
func nested(count int, n api.Node, ahead, inner []api.Node) []api.Node {
	var l []api.Node
	for i := range count {
		n.Size = (count-i)*(1+len(ahead)) - 1 + len(inner)
		l = append(l, n)
		l = append(l, ahead...)
	}
	return append(l, inner...)
}

// inMain is a program whose main has this block, or this as its only statement's first expression.
func inMain(block []api.Node) []api.Node {
	l := []api.Node{{Kind: api.KProg, Size: len(block) + 2}, {Kind: api.KFn, Text: "main", Size: len(block) + 1}, {Kind: api.KNoneT}}
	return append(l, block...)
}

const deep = 1 << 16

// deepLoops has a loop within a loop, and so on: in each KBlock a KWhile and its KBool.
func deepLoops(inner []api.Node) []api.Node {
	var l []api.Node
	for i := range deep {
		size := 3*(deep-i) + len(inner)
		l = append(l, api.Node{Kind: api.KBlock, Size: size}, api.Node{Kind: api.KWhile, Size: size - 1, Line: i}, api.Node{Kind: api.KBool})
	}
	l = append(l, api.Node{Kind: api.KBlock, Size: len(inner)})
	return append(l, inner...)
}

func TestDeepBlocks(t *testing.T) { // P9.1, P0.1
	inner := []api.Node{{Kind: api.KVar, Text: "a", Size: 2}, {Kind: api.KIntT}, {Kind: api.KInt}, {Kind: api.KPrint, Size: 1}, {Kind: api.KName, Text: "a", Line: 5}}
	p, fault := names.Resolve(inMain(deepLoops(inner)))
	want := []api.Var{{Name: "a", First: deep + 1, Last: deep + 2}}
	if fault != (api.Fault{}) || len(p.Points) != deep+2 || !slices.Equal(p.Vars, want) || p.Points[deep-1].Line != deep-1 {
		t.Error("deep loops:", fault, len(p.Points), p.Vars)
	}
	wantSeen(t, p, deep+1, want)
	wantSeen(t, p, deep, nil)
	wantFaultOf(t, inMain(deepLoops(inner[3:])), api.Fault{Code: api.ErrName, Line: 5})
	wantFaultOf(t, inMain(deepLoops(slices.Concat(inner[:3], inner[:3]))), api.Fault{Code: api.ErrTwice})
}

func TestDeepTypes(t *testing.T) { // P9.1, P0.1
	lists := nested(deep, api.Node{Kind: api.KListT}, nil, []api.Node{{Kind: api.KRecT, Text: "P", Line: 9}})
	field := append([]api.Node{{Kind: api.KField, Text: "a", Size: len(lists)}}, lists...)
	rec := append([]api.Node{{Kind: api.KRec, Text: "P", Size: len(field)}}, field...)
	main := inMain([]api.Node{{Kind: api.KBlock}})
	l := slices.Concat([]api.Node{{Kind: api.KProg, Size: len(rec) + 3}}, rec, main[1:])
	p, fault := names.Resolve(l)
	if fault != (api.Fault{}) || len(p.Types) != 7+deep || p.Fields[0].Type != 6+deep || p.Marks[3].Type != 6+deep || p.Marks[2+deep+1].Type != 6 {
		t.Error("deep lists:", fault, len(p.Types), p.Fields)
	}
	l[3+deep].Text = "Q"
	wantFaultOf(t, l, api.Fault{Code: api.ErrName, Line: 9})
}

func TestDeepExpressions(t *testing.T) { // P9.1, P0.1
	signs := nested(deep, api.Node{Kind: api.KUn, Num: api.OpNot}, nil, []api.Node{{Kind: api.KName, Text: "a", Line: 3}})
	makes := nested(deep/2, api.Node{Kind: api.KMake}, []api.Node{{Kind: api.KListT, Size: 1}, {Kind: api.KIntT}}, signs)
	variable := append([]api.Node{{Kind: api.KVar, Text: "b", Size: len(makes) + 1}, {Kind: api.KIntT}}, makes...)
	block := append([]api.Node{{Kind: api.KBlock, Size: len(variable)}}, variable...)
	wantFaultOf(t, inMain(block), api.Fault{Code: api.ErrName, Line: 3})
	calls := nested(deep, api.Node{Kind: api.KCall, Text: "main"}, nil, []api.Node{{Kind: api.KCall, Text: "len"}})
	block = append([]api.Node{{Kind: api.KBlock, Size: len(calls) + 1}, {Kind: api.KDo, Size: len(calls)}}, calls...)
	if p, fault := names.Resolve(inMain(block)); fault != (api.Fault{}) || p.Marks[len(p.Marks)-1].Ref != -api.BLen || len(p.Points) != 1 {
		t.Error("deep calls:", fault, len(p.Points))
	}
}

// behindIt is a list with room behind its end, that is filled; it tells whether that and the list stay.
func behindIt[of comparable](l []of, filler of) (handed []of, stays func() bool) {
	room := append(slices.Clone(l), filler, filler, filler)
	was := slices.Clone(room)
	return room[:len(l)], func() bool { return slices.Equal(room, was) }
}

func TestHandedInStays(t *testing.T) { // P0.3, P0.5
	all := append(grown(41, 300), nil, treeOf(t, "fn f() { print x; } fn main() {}"), treeOf(t, "rec P {} rec P {}"), treeOf(t, "fn f() {}"))
	for _, l := range all {
		handed, stays := behindIt(l, api.Node{Kind: api.KReturn, Text: "filler"})
		p, fault := names.Resolve(handed)
		again, sameFault := names.Resolve(handed)
		if !stays() || fault != sameFault || !same(p, again) {
			t.Errorf("%s: it stays: %v, answered again: %v", shown(l), stays(), same(p, again))
		}
		for at := range handed {
			handed[at] = api.Node{Kind: 77}
		}
		if !same(p, again) || len(p.Nodes) > 0 && p.Nodes[0].Kind != api.KProg {
			t.Errorf("%s: what was handed in is kept", shown(l))
		}
		vars, stay := behindIt(p.Vars, api.Var{Name: "a", Slot: 55, Last: 9999})
		p.Vars = vars
		for point := range p.Points {
			seen, was := names.Seen(p, point), names.Seen(p, point)
			slot, is := names.Slot(p, point, "a")
			for i := range seen {
				seen[i] = api.Var{Name: "written", Slot: 66}
			}
			_ = append(seen, api.Var{})
			if slotAgain, isAgain := names.Slot(p, point, "a"); slot != slotAgain || is != isAgain || !slices.Equal(names.Seen(p, point), was) {
				t.Errorf("%s: at %d what was answered is kept", shown(l), point)
			}
		}
		if !stay() {
			t.Errorf("%s: names that were handed in were changed", shown(l))
		}
	}
}

// spoil writes into each list of a program, and behind its end.
func spoil(p api.Prog) {
	clear(p.Nodes)
	clear(p.Marks)
	clear(p.Types)
	clear(p.Recs)
	clear(p.Fields)
	clear(p.Fns)
	clear(p.Slots)
	clear(p.Vars)
	clear(p.Points)
	_ = append(p.Nodes, api.Node{Kind: 77})
	_ = append(p.Types, api.Type{Kind: 77})
	_ = append(p.Fields, api.Field{Name: "spoilt"})
	_ = append(p.Slots, 77)
	_ = append(p.Vars, api.Var{Name: "spoilt"})
}

func TestAnswersAreNew(t *testing.T) { // P0.3
	for _, l := range grown(43, 300) {
		was := slices.Clone(l)
		p, _ := names.Resolve(l)
		other, _ := names.Resolve(l)
		spoil(p)
		again, _ := names.Resolve(l)
		if !slices.Equal(l, was) || !same(other, again) {
			t.Errorf("%s: an answer isn't new memory", shown(l))
		}
		wantAsSaid(t, l)
	}
}
