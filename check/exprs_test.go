package check_test

import (
	"fmt"
	"slices"
	"strings"
	"testing"

	"hindcast/api"
	"hindcast/check"
	"hindcast/names"
)

// wantExprAt asks of an expression at a point for its type and how many types there are more than the program has; if it is empty, for a fault where ^ stands.
func wantExprAt(t *testing.T, p api.Prog, point int, marked, is string, code api.Errno) {
	t.Helper()
	text, fault := unmarked(marked, code)
	e := exprOf(t, text)
	if is == "" {
		wantExprFault(t, p, point, e, fault)
		return
	}
	marks, table, got := check.Expr(p, point, e)
	p.Types = table
	if got != (api.Fault{}) || len(marks) != len(e) || saidOver(p, nil, nil).types[marks[0].Type] != is {
		t.Errorf("Expr(%d, %s): %v, %v, %v, want %s", point, marked, marks, table, got, is)
	}
}

const hiding = "fn f(a: int, b: str) {\n" + // its points are numbered
	" print a;\n" + // 0
	" if true {\n" + // 1
	"  print b;\n" + // 2
	"  var a: str = text(a);\n" + // 3
	"  print a;\n" + // 4
	"  while true {\n" + // 5
	"   var a: [int] = nil;\n" + // 6
	"   var c: bool = true;\n" + // 7
	"  }\n" +
	"  print a;\n" + // 8
	" } else {\n" +
	"  var b: comp = 1i;\n" + // 9
	"  print b;\n" + // 10
	" }\n" +
	" var c: comp = 2i;\n" + // 11
	" print a;\n" + // 12
	"}\n" +
	"fn main() { var d: bool = true; return; }" // 13 and 14

func TestNamesAtPoints(t *testing.T) { // P10.1
	p := programOf(t, hiding)
	seen := map[string][]string{ // the types of each name, point by point; 0 where it isn't seen
		"a": strings.Fields("int int int int str str str [int] str int int int int 0 0"),
		"b": strings.Fields("str str str str str str str str str str comp str str 0 0"),
		"c": strings.Fields("0 0 0 0 0 0 0 0 0 0 0 0 comp 0 0"),
		"d": strings.Fields("0 0 0 0 0 0 0 0 0 0 0 0 0 0 bool"),
		"e": strings.Fields("0 0 0 0 0 0 0 0 0 0 0 0 0 0 0"),
		"f": strings.Fields("0 0 0 0 0 0 0 0 0 0 0 0 0 0 0"),
	}
	slots := map[string][]int{"a": {0, 0, 0, 0, 2, 2, 2, 3, 2, 0, 0, 0, 0}, "b": {1, 1, 1, 1, 1, 1, 1, 1, 1, 1, 5, 1, 1}}
	if len(p.Points) != 15 {
		t.Fatal("points:", len(p.Points))
	}
	for name, types := range seen {
		for point, is := range types {
			if is == "0" {
				wantExprAt(t, p, point, "^"+name, "", api.ErrName)
				wantExprAt(t, p, point, "len(1 + f(^"+name+"))", "", api.ErrName)
				continue
			}
			wantExprAt(t, p, point, name, is, api.OK)
			wantExprAt(t, p, point, name+" == "+name, "bool", api.OK)
			if of, is := slots[name]; is {
				if marks, _, _ := check.Expr(p, point, exprOf(t, name)); marks[0].Ref != of[point] || marks[0].Point != 0 {
					t.Errorf("%s at %d: %v, want the slot %d", name, point, marks[0], of[point])
				}
			}
		}
	}
	wantExprAt(t, p, 7, "a[0] + 1", "int", api.OK)
	wantExprAt(t, p, 6, "a[0] + 1", "int", api.OK)
	wantExprAt(t, p, 12, "^a[0] + 1", "", api.ErrType)
	wantExprAt(t, p, 8, `a + ""`, "str", api.OK)
	wantExprAt(t, p, 7, `a ^+ ""`, "", api.ErrType)
	wantExprAt(t, p, 12, "c * 1i", "comp", api.OK)
	wantExprAt(t, p, 14, "f(1, text(d))", "none", api.OK)
}

func TestNamesThatMeanNothing(t *testing.T) { // P10.1, P0.2
	p := programOf(t, "rec P { x: int; p: P; }\nfn f(a: int, p: P): P { return p; }\nfn g() {}\nfn main() { g(); }")
	for marked, code := range map[string]api.Errno{
		"^x": api.ErrName, "^none()": api.ErrName, "make ^Q()": api.ErrName, "make [^Q](1)": api.ErrName, "make [[[^Q]]](1)": api.ErrName, "^f": api.ErrName, "^main": api.ErrName, "^len": api.ErrName, "^a()": api.ErrName, "^text": api.ErrName,
		// As they stand, wherever they are.
		"^x + y": api.ErrName, "^x + none()": api.ErrName, "^none(x)": api.ErrName, "^none(y) + x": api.ErrName, "f(^x, y)": api.ErrName, "^p(x).z": api.ErrName, "make [^Q](x)": api.ErrName, "make [P](^x)": api.ErrName, "make [[P]](make ^Q())": api.ErrName,
		"make ^Q() == make R()": api.ErrName, "make P() == make ^R()": api.ErrName, "a[^b]": api.ErrName, "a * ^b()": api.ErrName,
		// Ahead of all other faults.
		"1 + true + ^x": api.ErrName, "f() + ^x": api.ErrName, "a.b + ^none()": api.ErrName, "make [int](true)[make ^Q()]": api.ErrName, "p.z == ^x": api.ErrName, "g() == ^g": api.ErrName, "!(1 == nil) && ^none()": api.ErrName,
		// And these behind them.
		"1 ^+ true": api.ErrType, "^a.b": api.ErrType, "^f()": api.ErrCount, "p^.z": api.ErrName, "f(^g(), p)": api.ErrType, "make [P](^p)": api.ErrType, "make [[P]](^make [P](1).x)": api.ErrType, "p.p == f(1, ^2)": api.ErrType,
	} {
		wantExprAt(t, p, 0, marked, "", code)
	}
	for e, is := range map[string]string{"p": "P", "a": "int", "f(a, p).p.x": "int", "make P().p": "P", "g()": "none", "main()": "none", "len(make [P](a))": "int", "nil": "nil"} {
		wantExprAt(t, p, 0, e, is, api.OK)
	}
	wantExprAt(t, p, 1, "f(1, nil)", "P", api.OK)
	wantExprAt(t, p, 1, "f(1, ^p)", "", api.ErrName)
}

func TestNoExpressionsTree(t *testing.T) { // P10.1, P0.1, P0.2, P0.4
	p := programOf(t, "fn main() { var a: int = 1; print a; }")
	whole := exprOf(t, "a + len(\"x\")")
	wrong := [][]api.Node{
		nil, {}, {{}}, {{Kind: api.KInt, Size: 1}}, {{Kind: api.KInt, Num: -1}}, {{Kind: api.KName}}, {{Kind: api.KName, Text: "A"}}, {{Kind: api.KName, Text: "while"}}, {{Kind: api.KUn, Num: api.OpNot}}, {{Kind: 33}},
		one(api.KIntT), one(api.KNoneT), one(api.KReturn), one(api.KBlock), one(api.KProg), node(api.Node{Kind: api.KPrint}, one(api.KInt)), node(api.Node{Kind: api.KListT}, one(api.KIntT)), node(api.Node{Kind: api.KDo}, node(api.Node{Kind: api.KCall, Text: "main"})),
		p.Nodes, p.Nodes[3:], whole[1:], whole[:2], append(slices.Clone(whole), whole...), append(slices.Clone(whole), one(api.KBlock)...), slices.Concat(one(api.KInt), one(api.KInt)),
		node(api.Node{Kind: api.KBin, Num: api.OpNeg}, one(api.KInt), one(api.KInt)), node(api.Node{Kind: api.KBin, Num: api.OpAdd}, one(api.KInt)), node(api.Node{Kind: api.KMake}, one(api.KIntT)), node(api.Node{Kind: api.KMake}, node(api.Node{Kind: api.KListT}, one(api.KIntT))),
		node(api.Node{Kind: api.KCall, Text: "none"}, one(api.KIntT)), node(api.Node{Kind: api.KUn, Num: api.OpNot}, one(api.KBlock)),
	}
	for _, l := range wrong {
		wantExprFault(t, p, 1, l, api.Fault{Code: api.ErrArg})
	}
	for at := range whole {
		for _, change := range []func(*api.Node){func(n *api.Node) { n.Size++ }, func(n *api.Node) { n.Size-- }, func(n *api.Node) { n.Kind = 0 }, func(n *api.Node) { n.Num = 77 }, func(n *api.Node) { n.Text = "A" }} {
			l := slices.Clone(whole)
			change(&l[at])
			if isExpressionsTree(l) {
				continue // a literal may have any text
			}
			wantExprFault(t, p, 1, l, api.Fault{Code: api.ErrArg})
		}
	}
	if _, _, fault := check.Expr(p, 1, whole); fault != (api.Fault{}) {
		t.Error("the whole one:", fault)
	}
}

func TestTypesThatTheProgramHasNot(t *testing.T) { // P10.1
	p := programOf(t, "rec P {}\nrec Q {}\nfn main() { var a: [int] = nil; print a; print a; }")
	had := []api.Type{{}, {Kind: 1}, {Kind: 2}, {Kind: 3}, {Kind: 4}, {Kind: 5}, {Kind: 6, Of: 0}, {Kind: 6, Of: 1}, {Kind: 7, Of: 1}}
	if !slices.Equal(p.Types, had) {
		t.Fatal("types:", p.Types)
	}
	list := func(of int) api.Type { return api.Type{Kind: api.ListKind, Of: of} }
	for text, more := range map[string][]api.Type{
		"1":                             nil,
		"make P()":                      nil,
		"make [int](1)":                 nil,
		"make [P](1)":                   {list(6)},
		"make [[Q]](1)":                 {list(7), list(9)},
		"make [[int]](1)":               {list(8)},
		"make [[[int]]](1)":             {list(8), list(9)},
		"make [Q](1) == make [Q](2)":    {list(7)},
		"len(make [P](1)) + len(a)":     {list(6)},
		"make [str](len(make [P](1)))":  {list(3), list(6)},
		"make [P](len(make [str](1)))":  {list(6), list(3)},
		"make [[P]](len(make [P](1)))":  {list(6), list(9)},
		"make [P](len(make [[P]](1)))":  {list(6), list(9)},
		"make [[comp]](1)[0] == nil":    {list(4), list(9)},
		"pair(len(make [bool](1)), 1)":  {list(2)},
		"nil == make [[[[comp]]]](1)":   {list(4), list(9), list(10), list(11)},
		"make [[[P]]](1)[0][0][0]":      {list(6), list(9), list(10)},
		"a[len(make [[int]](1)[a[0]])]": {list(8)},
	} {
		for point := 1; point <= 2; point++ {
			marks, table, fault := check.Expr(p, point, exprOf(t, text))
			if want := append(slices.Clone(had), more...); fault != (api.Fault{}) || !slices.Equal(table, want) || len(marks) == 0 {
				t.Errorf("%s: %v, %v, want %v", text, table, fault, want)
			}
			wantExprAsSaid(t, p, point, exprOf(t, text))
		}
		if !slices.Equal(p.Types, had) {
			t.Fatal("the program's own types:", p.Types)
		}
	}
	// Lists of other types aren't the same, nor fit each other, whether the program has them or not.
	for _, marked := range []string{"make [P](1) ^== make [Q](1)", "make [[P]](1)[0] ^!= make [[P]](1)", "a ^== make [str](1)", "make [P](1)^[0][0]", "make [P](^make [P](1))"} {
		wantExprAt(t, p, 1, marked, "", api.ErrType)
	}
}

// wantMarks asks for marks as texts, blank by blank: type, ref and point.
func wantMarks(t *testing.T, nodes []api.Node, marks []api.Mark, wants ...string) {
	t.Helper()
	if len(marks) != len(nodes) || len(wants) != len(nodes) {
		t.Fatalf("%d marks of %d nodes, want %d", len(marks), len(nodes), len(wants))
	}
	for at, mark := range marks {
		if got := fmt.Sprintf("%d: %d %d %d", nodes[at].Kind, mark.Type, mark.Ref, mark.Point); got != wants[at] {
			t.Errorf("at %d: %s, want %s", at, got, wants[at])
		}
	}
}

func TestMarksOfExpressions(t *testing.T) { // P10.1
	// The types: 6 is P, 7 is [P], 8 is [[P]].
	p := programOf(t, "rec P { x: int; y: [P]; }\nfn g() {}\nfn f(a: [[P]], b: str): comp { return 1i; }\nfn main() { g(); }")
	for text, wants := range map[string][]string{
		"1": {"21: 1 0 0"}, "1i": {"22: 4 0 0"}, `"1"`: {"23: 3 0 0"}, "true": {"24: 2 0 0"}, "nil": {"25: 5 0 0"}, "b": {"26: 3 1 0"},
		"g()":           {"27: 0 0 0"},
		"f(a, b)":       {"27: 4 1 0", "26: 8 0 0", "26: 3 1 0"},
		"f(nil, b)":     {"27: 4 1 0", "25: 5 0 0", "26: 3 1 0"},
		"main()":        {"27: 0 2 0"},
		"len(a)":        {"27: 1 -1 0", "26: 8 0 0"},
		"text(1)":       {"27: 3 -2 0", "21: 1 0 0"},
		"re(1i)":        {"27: 1 -3 0", "22: 4 0 0"},
		"im(1i)":        {"27: 1 -4 0", "22: 4 0 0"},
		"pair(1, 2)":    {"27: 4 -5 0", "21: 1 0 0", "21: 1 0 0"},
		"chr(1)":        {"27: 3 -6 0", "21: 1 0 0"},
		"read()":        {"27: 1 -7 0"},
		"rand(1)":       {"27: 1 -8 0", "21: 1 0 0"},
		"a[0]":          {"28: 7 0 0", "26: 8 0 0", "21: 1 0 0"},
		"b[0]":          {"28: 1 0 0", "26: 3 1 0", "21: 1 0 0"},
		"a[0][1].y":     {"29: 7 1 0", "28: 6 0 0", "28: 7 0 0", "26: 8 0 0", "21: 1 0 0", "21: 1 0 0"},
		"make P().x":    {"29: 1 0 0", "32: 6 0 0", "19: 6 0 0"},
		"-1":            {"30: 1 0 0", "21: 1 0 0"},
		"!true":         {"30: 2 0 0", "24: 2 0 0"},
		"1 + 2":         {"31: 1 0 0", "21: 1 0 0", "21: 1 0 0"},
		"1i * 1i":       {"31: 4 0 0", "22: 4 0 0", "22: 4 0 0"},
		"1 < 2":         {"31: 2 0 0", "21: 1 0 0", "21: 1 0 0"},
		"b + b":         {"31: 3 0 0", "26: 3 1 0", "26: 3 1 0"},
		"b == b":        {"31: 2 0 0", "26: 3 1 0", "26: 3 1 0"},
		"a != nil":      {"31: 2 0 0", "26: 8 0 0", "25: 5 0 0"},
		"make [[P]](1)": {"32: 8 0 0", "20: 8 0 0", "20: 7 0 0", "19: 6 0 0", "21: 1 0 0"},
		"make [int](1)": {"32: 9 0 0", "20: 9 0 0", "15: 1 0 0", "21: 1 0 0"},
	} {
		e := exprOf(t, text)
		marks, _, _ := check.Expr(p, 0, e)
		wantMarks(t, e, marks, wants...)
	}
}

func TestMarksOfAll(t *testing.T) { // P10.1
	source := "rec P { x: int; y: [P]; }\nfn f(a: P): [P] {\n a = a.y[0];\n if a == nil { return a.y; } else { while !true { print -1; } return make [P](a.x); }\n}\nfn main() { var b: str = text(1i); main(); b = chr(b[0]); }"
	l := treeOf(t, source)
	p := programOf(t, source)
	if len(p.Types) != 8 {
		t.Fatal("types:", p.Types)
	}
	wantMarks(t, l, p.Marks,
		"1: 0 0 0", "2: 0 0 0", "3: 1 0 0", "15: 1 0 0", "3: 7 0 0", "20: 7 0 0", "19: 6 0 0",
		"4: 7 0 0", "5: 6 0 0", "19: 6 0 0", "20: 7 0 0", "19: 6 0 0", "6: 0 0 0",
		"8: 0 0 0", "26: 6 0 0", "28: 6 0 0", "29: 7 1 0", "26: 6 0 0", "21: 1 0 0",
		"9: 0 0 1", "31: 2 0 0", "26: 6 0 0", "25: 5 0 0",
		"6: 0 0 0", "11: 0 0 2", "29: 7 1 0", "26: 6 0 0",
		"6: 0 0 0", "10: 0 0 3", "30: 2 0 0", "24: 2 0 0", "6: 0 0 0", "12: 0 0 4", "30: 1 0 0", "21: 1 0 0",
		"11: 0 0 5", "32: 7 0 0", "20: 7 0 0", "19: 6 0 0", "29: 1 0 0", "26: 6 0 0",
		"4: 0 1 0", "14: 0 0 0", "6: 0 0 0",
		"7: 3 0 6", "17: 3 0 0", "27: 3 -2 0", "22: 4 0 0",
		"13: 0 0 7", "27: 0 1 0",
		"8: 0 0 8", "26: 3 0 0", "27: 3 -6 0", "28: 1 0 0", "26: 3 0 0", "21: 1 0 0",
	)
	wantLayer9Left(t, p, l)
}

// wantLayer9Left asks a program to be what layer 9 answers, but for the types of expressions and the fields of KDots.
func wantLayer9Left(t *testing.T, p api.Prog, l []api.Node) {
	t.Helper()
	before, _ := names.Resolve(l)
	for at, n := range l {
		was, is := before.Marks[at], p.Marks[at]
		if isExpression(n.Kind) && n.Kind != api.KName && n.Kind != api.KMake {
			was.Type = is.Type
		}
		if n.Kind == api.KDot {
			was.Ref = is.Ref
		}
		if was != is {
			t.Errorf("%s: at %d: %v, but layer 9 has %v", shown(l), at, is, was)
		}
	}
	before.Marks = p.Marks
	if !same(p, before) {
		t.Errorf("%s: %s, but layer 9 has %s", shown(l), shown(p), shown(before))
	}
}

func TestWhatLayer9Marked(t *testing.T) { // P10.1
	for _, l := range grown(61, 500) {
		p, _ := check.Check(l)
		wantLayer9Left(t, p, l)
	}
}

func TestEachByItselfByHand(t *testing.T) { // P10.3
	for _, source := range []string{
		hiding,
		inAll("var v: [[P]] = make [[P]](3); v[i] = p.l; v[i][0].x = two(-i, v[0][0].p); if v == nil || p == nil && b { print q.y * 2i; return; } else { while !(s[0] == 1) { no(); } }"),
		"fn main() { main(); if true { var a: int = 1; var b: int = a; var c: bool = a == b; } }",
	} {
		p := programOf(t, source)
		for at, n := range p.Nodes {
			if !isExpression(n.Kind) {
				continue
			}
			end := at + n.Size + 1
			marks, table, fault := check.Expr(p, statementOf(p, at), p.Nodes[at:end])
			if fault != (api.Fault{}) || !slices.Equal(marks, p.Marks[at:end]) || !slices.Equal(table, p.Types) {
				t.Errorf("%s: at %d by itself: %v, %v, %v", source, at, marks, table, fault)
			}
		}
	}
}
