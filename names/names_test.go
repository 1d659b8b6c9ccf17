package names_test

import (
	"fmt"
	"math"
	"slices"
	"strings"
	"testing"

	"hindcast/api"
	"hindcast/names"
	"hindcast/parse"
)

// shown is a row, a program or a text cut short: all may be long.
func shown(what any) string { return fmt.Sprintf("%.400s", fmt.Sprintf("%+v", what)) }

// same tells whether two programs are the same; an empty list is the same as none.
func same(a, b api.Prog) bool {
	return slices.Equal(a.Nodes, b.Nodes) && slices.Equal(a.Marks, b.Marks) && slices.Equal(a.Types, b.Types) &&
		slices.Equal(a.Recs, b.Recs) && slices.Equal(a.Fields, b.Fields) && slices.Equal(a.Fns, b.Fns) &&
		slices.Equal(a.Slots, b.Slots) && slices.Equal(a.Vars, b.Vars) && slices.Equal(a.Points, b.Points)
}

// treeOf is a source's tree.
func treeOf(t *testing.T, source string) []api.Node {
	t.Helper()
	l, fault := parse.Parse(source)
	if fault.Code != api.OK {
		t.Fatalf("%s: %v", shown(source), fault)
	}
	return l
}

// programOf is what a source without faults is answered.
func programOf(t *testing.T, source string) api.Prog {
	t.Helper()
	p, fault := names.Resolve(treeOf(t, source))
	if fault != (api.Fault{}) {
		t.Fatalf("%s: %v", shown(source), fault)
	}
	return p
}

func wantFaultOf(t *testing.T, l []api.Node, want api.Fault) {
	t.Helper()
	if p, fault := names.Resolve(l); fault != want || !same(p, api.Prog{}) {
		t.Errorf("Resolve(%s): %s, %v, want %v", shown(l), shown(p), fault, want)
	}
}

// wantFault asks for a fault where ^ stands in a source, or nowhere, if it doesn't.
func wantFault(t *testing.T, marked string, code api.Errno) {
	t.Helper()
	ahead, behind, isMarked := strings.Cut(marked, "^")
	want := api.Fault{Code: code}
	if isMarked {
		want.Line = 1 + strings.Count(ahead, "\n")
		want.Col = len(ahead) - strings.LastIndex(ahead, "\n")
	}
	if p, fault := names.Resolve(treeOf(t, ahead+behind)); fault != want || !same(p, api.Prog{}) {
		t.Errorf("Resolve(%s): %s, %v, want %v", shown(marked), shown(p), fault, want)
	}
}

// points are those that a program is asked for: its own, and some that aren't there.
func points(p api.Prog) []int {
	all := []int{math.MinInt, -1 << 32, -2, -1, len(p.Points) + 1, 1 << 32, math.MaxInt}
	for point := range len(p.Points) + 1 {
		all = append(all, point)
	}
	return all
}

// wantSeen asks Seen and Slot of a point; these are the names that are seen there.
func wantSeen(t *testing.T, p api.Prog, point int, want []api.Var) {
	t.Helper()
	if seen := names.Seen(p, point); !slices.Equal(seen, want) {
		t.Errorf("Seen(%s, %d): %v, want %v", shown(p.Nodes), point, seen, want)
	}
	for _, name := range []string{"a", "b", "c", "d", "f", "x", "y", "len", "main", "A", "", "aa"} {
		slot, is := 0, false
		for _, v := range want {
			if v.Name == name {
				slot, is = v.Slot, true
			}
		}
		if gotSlot, got := names.Slot(p, point, name); gotSlot != slot || got != is {
			t.Errorf("Slot(%s, %d, %q): %d, %v, want %d, %v", shown(p.Nodes), point, name, gotSlot, got, slot, is)
		}
	}
}

// wantAsSaid asks all of a row what is said apart from the program, and tells whether it is a program without faults.
func wantAsSaid(t *testing.T, l []api.Node) bool {
	t.Helper()
	s, want := saidOf(l)
	if s == nil {
		wantFaultOf(t, l, want)
		return false
	}
	p, fault := names.Resolve(l)
	if fault != (api.Fault{}) || !same(p, s.p) {
		t.Fatalf("Resolve(%s):\n%+v, %v, want\n%+v", shown(l), p, fault, s.p)
	}
	for _, point := range points(p) {
		var seen []api.Var
		if point >= 0 && point < len(s.seen) {
			seen = s.seen[point]
		}
		wantSeen(t, p, point, seen)
	}
	return true
}

func TestExamples(t *testing.T) { // P9.1
	p := programOf(t, "fn main() { var a: int = 1; print a; }")
	want := []api.Var{{Name: "a", First: 1, Last: 2}}
	if len(p.Points) != 2 || !slices.Equal(p.Slots, []int{api.IntKind}) || !slices.Equal(p.Vars, want) {
		t.Errorf("%+v", p)
	}
	wantSeen(t, p, 0, nil)
	wantSeen(t, p, 1, want)
	wantSeen(t, p, 2, nil)
}

func TestBuilt(t *testing.T) { // P9.1
	for name, want := range map[string]int{
		"len": api.BLen, "text": api.BStr, "re": api.BRe, "im": api.BIm, "pair": api.BPair, "chr": api.BChr, "read": api.BRead, "rand": api.BRand,
		"": 0, "le": 0, "lenn": 0, "Len": 0, "LEN": 0, " len": 0, "len ": 0, "len\x00": 0, "str": 0, "int": 0, "r": 0, "t": 0, "main": 0, "print": 0, "make": 0, "none": 0, "nil": 0, "\xff": 0, "lenlen": 0,
	} {
		if got := names.Built(name); got != want {
			t.Errorf("Built(%q): %d, want %d", name, got, want)
		}
	}
	if api.BLen != 1 || api.BRand != 8 {
		t.Error("numbers of functions that are there:", api.BLen, api.BRand)
	}
}

func TestNoProgramsTree(t *testing.T) { // P9.1, P0.1, P0.4
	whole := of(api.KProg, of(api.KFn, of(api.KNoneT), of(api.KBlock)).text("main")).row()
	if _, fault := names.Resolve(whole); fault != (api.Fault{}) {
		t.Error("the whole one:", fault)
	}
	expression, _ := parse.Expr("f(1) + x")
	wrong := [][]api.Node{
		nil, {}, {{}}, {{Kind: api.KProg, Size: 1}}, {{Kind: api.KProg, Size: -1}}, {{Kind: api.KProg, Size: math.MaxInt}}, {{Kind: api.KProg, Text: "p"}}, {{Kind: api.KProg, Num: 1}},
		expression, {{Kind: api.KInt}}, {{Kind: api.KIntT}}, {{Kind: api.KNoneT}}, {{Kind: api.KListT, Size: 1}, {Kind: api.KIntT}},
		of(api.KBlock).row(), of(api.KRec).text("A").row(), of(api.KFn, of(api.KNoneT), of(api.KBlock)).text("main").row(), of(api.KReturn).row(),
		whole[1:], whole[:3], append(slices.Clone(whole), whole...), append(slices.Clone(whole), api.Node{}),
		of(api.KProg, of(api.KProg)).row(), of(api.KProg, of(api.KIntT)).row(), of(api.KProg, of(api.KFn, of(api.KBlock)).text("main")).row(),
		of(api.KProg, of(api.KFn, of(api.KNoneT), of(api.KBlock)).text("main").num(1)).row(), of(api.KProg, of(api.KFn, of(api.KNoneT), of(api.KBlock)).text("while")).row(),
		// These have other faults, too.
		of(api.KProg, of(api.KRec).text("A"), of(api.KRec).text("A"), of(api.KReturn)).row(), of(api.KProg, of(api.KFn, of(api.KRecT).text("no"), of(api.KBlock)).text("f")).row(),
	}
	for _, l := range wrong {
		wantFaultOf(t, l, api.Fault{Code: api.ErrArg})
	}
	for at := range whole {
		for _, change := range []func(*api.Node){func(n *api.Node) { n.Size++ }, func(n *api.Node) { n.Size-- }, func(n *api.Node) { n.Kind = 99 }, func(n *api.Node) { n.Num = -1 }, func(n *api.Node) { n.Text = "A" }} {
			l := slices.Clone(whole)
			change(&l[at])
			wantFaultOf(t, l, api.Fault{Code: api.ErrArg})
		}
	}
	wantFaultOf(t, of(api.KProg).row(), api.Fault{Code: api.ErrMain})
}

func TestTwice(t *testing.T) { // P9.1
	for _, marked := range []string{
		"rec P {} ^rec P {} fn main() {}",
		"rec P {} rec Q {} fn main() {} ^rec P {}",
		"rec Q {}\nrec P {} fn main() {}\n\n ^rec P { x: int; } rec Q {}",
		"rec P { a: int; ^a: int; } fn main() {}",
		"rec Q { a: int; } rec P { b: int; a: str;\n^b: [Q]; a: int; } fn main() {}",
		"fn main() {} ^fn main() {}",
		"fn main() {} fn f() {} fn g() {} ^fn f(): int {} fn g() {}",
		"fn main() {} fn f(a: int, ^a: int) {}",
		"fn main() {} fn f(a: int, b: str, c: comp, ^b: str, a: int) {}",
		"fn main() { var a: int = 1; ^var a: int = 2; }",
		"fn main() { var a: int = 1; var b: int = a; print b; ^var a: str = a; var b: int = 1; }",
		"fn main() {} fn f(a: int) { ^var a: int = 2; }",
		"fn main() {} fn f(a: int, b: int) { print a; var c: int = b; ^var b: int = c; }",
		"fn main() { if true { var a: int = 1; ^var a: int = 1; } }",
		"fn main() { var a: int = 1; if true {} else { var a: int = 1; while true { var a: int = 1; } ^var a: int = 1; } }",
		"fn main() { var a: int = 1; if true { var b: int = 1; var a: int = 1; } ^var a: int = 1; }",
		"fn f(a: int) { while true { var a: int = 1; ^var a: int = 1; } } fn main() {}",
	} {
		wantFault(t, marked, api.ErrTwice)
	}
	for _, built := range []string{"len", "text", "re", "im", "pair", "chr", "read", "rand"} {
		wantFault(t, "^fn "+built+"() {} fn main() {}", api.ErrTwice)
		wantFault(t, "fn main() {} fn f() {} ^fn "+built+"(a: int): int { return a; }", api.ErrTwice)
	}
}

func TestNamesThatMeanNothing(t *testing.T) { // P9.1
	for _, marked := range []string{
		// Types.
		"rec P { a: ^Q; } fn main() {}",
		"rec P { a: int; b: [[^Q]]; } fn main() {}",
		"rec P { a: P; } rec Q { b: [P]; c: ^R; } fn main() {}",
		"fn main() {} fn f(a: ^P) {}",
		"rec P {} fn main() {} fn f(a: P, b: [^Q], c: P) {}",
		"fn main() {} fn f(): ^P {}",
		"rec P {} fn main() {} fn f(a: P): [[^Q]] {}",
		"fn main() { var a: ^P = nil; }",
		"fn main() { var a: [^P] = nil; }",
		"fn main() { print make ^P(); }",
		"rec P {} fn main() { while len(make [P](1)) == len(make [[^Q]](1)) {} }",
		// Variables.
		"fn main() { print ^a; }",
		"fn main() { var a: int = ^a; }",
		"fn main() { var a: int = 1 + len(^a); }",
		"fn main() { print ^a; var a: int = 1; }",
		"fn main() { var a: int = 1; print a; print ^b; var b: int = 1; }",
		"fn main() { if true { var a: int = 1; } print ^a; }",
		"fn main() { if true { var a: int = 1; } else { print ^a; } }",
		"fn main() { if true { var a: int = 1; print a; } if ^a {} }",
		"fn main() { while ^a { var a: bool = true; } }",
		"fn main() { while true { var a: int = 1; } while ^a == 1 {} }",
		"fn main() { while true { print ^a; var a: int = 1; } }",
		"fn f(a: int) {} fn main() { return ^a; }",
		"fn f() { var a: int = 1; } fn main() { ^a = 1; }",
		"fn main() { f(1, 2, ^f); } fn f() {}",
		"fn main() { len(^len); }",
		"fn main() { print -^main; }",
		"rec P { a: int; } fn main() { print make P().a + ^a; }",
		"fn main() { ^a.b = 1; }",
		"fn main() { nil[^i] = 1; }",
		"fn main() { nil.a = ^a; }",
		"fn main() { var a: int = 1; a = 2 * (3 - ^b); }",
		// Functions.
		"fn main() { ^f(); }",
		"fn main() { var f: int = 1; print f; ^f(); }",
		"fn f(g: int) { print ^g(g); } fn main() {}",
		"fn main() { print f() + ^g(); } fn f(): int {}",
		"fn main() { print len(text(^none())); }",
		"rec P { f: int; } fn main() { ^f(); }",
	} {
		wantFault(t, marked, api.ErrName)
	}
}

func TestMain(t *testing.T) { // P9.1
	for _, marked := range []string{
		"", "fn f() {}", "rec Main {} fn mai() {} fn main_() {}", "fn f(main: int) { var b: int = main; }", "fn f() { main(); }",
		"^fn main(a: int) {}", "^fn main(): int {}", "fn f() {} ^fn main(a: int, b: int): [int] { return nil; } fn g() {}", "rec P {} fn f() {} fn g() {}\n\n\t^fn main(): P {}",
	} {
		wantFault(t, marked, api.ErrMain)
	}
	for _, source := range []string{"fn main() {}", "fn f(a: int): int {} rec P {} fn main() {}", "fn main() {} fn f() { main(); }", "fn main() { main(); }"} {
		programOf(t, source)
	}
}

// kindsOfFault are declarations with one fault each; # stands for a number of its own. Those of a lesser pass are told first, those of one as they stand.
func kindsOfFault() []struct {
	pass   int
	code   api.Errno
	marked string
} {
	return []struct {
		pass   int
		code   api.Errno
		marked string
	}{
		{1, api.ErrTwice, "rec A# {} ^rec A# {}"},
		{2, api.ErrTwice, "rec B# { a: int; ^a: int; }"},
		{2, api.ErrName, "rec C# { a: [^None]; }"},
		{3, api.ErrTwice, "fn a#() {} ^fn a#() {}"},
		{3, api.ErrTwice, "^fn len() {}"},
		{3, api.ErrTwice, "fn b#(a: int, ^a: int) {}"},
		{3, api.ErrName, "fn c#(a: ^None) {}"},
		{3, api.ErrName, "fn d#(): [^None] {}"},
		{3, api.ErrMany, "fn e#(" + listOf(20, "p#: int, ") + "^q: int) {}"},
		{4, api.ErrMain, "^fn main(a: int) {}"},
		{5, api.ErrName, "fn g#() { var a: ^None = 1; }"},
		{5, api.ErrName, "fn h#() { print make [^None](1); }"},
		{5, api.ErrName, "fn i#() { print ^x; }"},
		{5, api.ErrName, "fn j#() { print ^x(); }"},
		{5, api.ErrTwice, "fn k#() { var a: int = 1; ^var a: int = 2; }"},
		{5, api.ErrTwice, "fn l#(a: int) { ^var a: int = 2; }"},
		{5, api.ErrMany, "fn m#() { " + listOf(200, "var v#: int = 1; ") + "^var q: int = 2; }"},
	}
}

// listOf is a text so many times, with a number for each #.
func listOf(count int, of string) string {
	var b strings.Builder
	for i := range count {
		b.WriteString(strings.ReplaceAll(of, "#", fmt.Sprint(i)))
	}
	return b.String()
}

func TestFirstOfTwoFaults(t *testing.T) { // P9.1, P0.2
	for _, one := range kindsOfFault() {
		for _, other := range kindsOfFault() {
			first, second := strings.ReplaceAll(one.marked, "#", "1_"), strings.ReplaceAll(other.marked, "#", "2_")
			if one.code == api.ErrMain && other.code == api.ErrMain {
				continue
			}
			main := " fn main() {}"
			if one.code == api.ErrMain || other.code == api.ErrMain {
				main = ""
			}
			code := one.code
			if other.pass < one.pass {
				code, first = other.code, strings.ReplaceAll(first, "^", "")
			} else {
				second = strings.ReplaceAll(second, "^", "")
			}
			wantFault(t, first+" "+second+main, code)
		}
	}
}

func TestMainIsMissedAheadOfBlocks(t *testing.T) { // P9.1, P0.2
	for _, kind := range kindsOfFault() {
		marked, code := strings.ReplaceAll(kind.marked, "#", ""), kind.code
		if kind.pass > 4 {
			marked, code = strings.ReplaceAll(marked, "^", ""), api.ErrMain
		}
		wantFault(t, marked, code)
	}
}

func TestFirstOfFaultsAtOnePlace(t *testing.T) { // P9.1, P0.2
	for marked, code := range map[string]api.Errno{
		"rec P { a: int; ^a: None; }":                                                           api.ErrTwice,
		"rec P { a: ^None; a: int; }":                                                           api.ErrName,
		"rec P { a: ^None; } rec Q { a: int; a: int; }":                                         api.ErrName,
		"fn f(a: int, ^a: None): Other {}":                                                      api.ErrTwice,
		"fn f(a: ^None, a: int) {}":                                                             api.ErrName,
		"fn f(a: ^None): Other {}":                                                              api.ErrName,
		"^fn len(a: None): Other {}":                                                            api.ErrTwice,
		"fn f() {} ^fn f(a: int, a: None) {}":                                                   api.ErrTwice,
		"fn f() {} fn main() {} fn g(): ^None {} fn f() {}":                                     api.ErrName,
		"fn main() { var a: int = 1; var a: ^None = x; }":                                       api.ErrName,
		"fn main() { var a: int = 1; var a: int = ^x; }":                                        api.ErrName,
		"fn main() { var a: int = 1; var a: int = a + make ^None(); }":                          api.ErrName,
		"fn main() { f(^x, g()); }  fn f() {}":                                                  api.ErrName,
		"fn main() { ^f(x); }":                                                                  api.ErrName,
		"fn main() { print make [^None](x); }":                                                  api.ErrName,
		"fn main() { " + listOf(200, "var a#: int = 1; ") + "^var a7: int = 1; }":               api.ErrTwice,
		"fn main() { " + listOf(200, "var a#: int = 1; ") + "var b: int = ^b; }":                api.ErrName,
		"fn main() { " + listOf(200, "var a#: int = 1; ") + "print ^b; var b: int = 1; }":       api.ErrName,
		listOf(100, "rec P# {} ") + "^rec P5 {}":                                                api.ErrMany,
		"rec P { " + listOf(100, "a#: int; ") + "^a5: None; }":                                  api.ErrMany,
		listOf(100, "fn f#() {} ") + "^fn f5() {}":                                              api.ErrMany,
		listOf(100, "fn f#() {} ") + "^fn len(a: None) {}":                                      api.ErrMany,
		"fn f(" + listOf(20, "a#: int, ") + "^a5: None) {}":                                     api.ErrMany,
		"fn f(" + listOf(19, "a#: int, ") + "^a5: None, z: int) {}":                             api.ErrTwice,
		listOf(99, "rec P# {} ") + "^rec P5 {} rec Q {}":                                        api.ErrTwice,
		"rec P { " + listOf(99, "a#: int; ") + "^a5: None; b: int; }":                           api.ErrTwice,
		listOf(99, "fn f#() {} ") + "^fn f5() {} fn g() {}":                                     api.ErrTwice,
		"fn main() { " + listOf(199, "var a#: int = 1; ") + "^var a7: int = 1; var b: int=1; }": api.ErrTwice,
	} {
		wantFault(t, marked, code)
	}
}

func TestLimits(t *testing.T) { // P9.1
	recs := programOf(t, listOf(100, "rec P# { a: P99; } ")+"fn main() {}")
	if len(recs.Recs) != api.MaxRecs || len(recs.Types) != 106 || recs.Fields[0].Type != 105 {
		t.Error("MaxRecs:", shown(recs))
	}
	wantFault(t, listOf(100, "rec P# {} ")+"fn main() {} ^rec Q {} rec R {}", api.ErrMany)
	fields := programOf(t, "rec P { "+listOf(100, "a#: int; ")+"} rec Q { "+listOf(100, "a#: [P]; ")+"} fn main() {}")
	if len(fields.Fields) != 2*api.MaxFields || fields.Recs[1] != (api.Rec{Name: "Q", From: 100, Count: 100}) {
		t.Error("MaxFields:", shown(fields))
	}
	wantFault(t, "rec P { "+listOf(100, "a#: int; ")+"^b: int; c: int; } fn main() {}", api.ErrMany)
	wantFault(t, "rec P { a: int; } rec Q { "+listOf(100, "a#: int; ")+"^b: int; } fn main() {}", api.ErrMany)
	if fns := programOf(t, listOf(99, "fn f#() { f98(); } ")+"fn main() { main(); }"); len(fns.Fns) != api.MaxFns || fns.Marks[len(fns.Nodes)-1].Ref != 99 {
		t.Error("MaxFns:", shown(fns))
	}
	wantFault(t, "fn main() {} "+listOf(99, "fn f#() {} ")+"rec P {} ^fn g() {} fn h() {}", api.ErrMany)
	if params := programOf(t, "fn f("+listOf(19, "a#: int, ")+"b: [int]) {} fn main() {}"); params.Fns[0].Params != api.MaxParams || params.Fns[0].Slots != 20 {
		t.Error("MaxParams:", shown(params))
	}
	wantFault(t, "fn f("+listOf(20, "a#: int, ")+"^b: int, c: int) {} fn main() {}", api.ErrMany)
}

func TestLimitOfSlots(t *testing.T) { // P9.1
	full := listOf(200, "var a#: int = 1; ")
	slots := programOf(t, "fn main() { "+full+"print a199; } fn f() { "+full+"}")
	if len(slots.Slots) != 2*api.MaxSlots || slots.Fns[0].Slots != api.MaxSlots || slots.Fns[1].At != api.MaxSlots {
		t.Error("MaxSlots:", shown(slots))
	}
	if slot, is := names.Slot(slots, 200, "a199"); slot != 199 || !is {
		t.Error("the last slot:", slot, is)
	}
	wantFault(t, "fn main() { "+full+"^var b: int = 1; var c: int = 2; }", api.ErrMany)
	// Those that are seen no more have slots, too.
	apart := listOf(100, "if true { var a: int = 1; } else { var a: int = 2; } ")
	programOf(t, "fn main() { "+apart+"}")
	wantFault(t, "fn main() { "+apart+"while true { ^var b: int = 1; } }", api.ErrMany)
	// Parameters have slots.
	params := "fn main() {} fn f(" + listOf(19, "p#: int, ") + "p: int) { "
	programOf(t, params+listOf(180, "var a#: int = 1; ")+"}")
	wantFault(t, params+listOf(180, "var a#: int = 1; ")+"if true { ^var b: int = 1; } }", api.ErrMany)
	wantFault(t, "fn main() { "+full+"} fn f() { var a: int = 1; } fn g(a: int) { "+listOf(199, "var a#: int = 1; ")+"^var b: int = 1; }", api.ErrMany)
}

func TestOneNameForAll(t *testing.T) { // P9.1
	p := programOf(t, "rec P { a: int; p_: P; } fn a(a: P): P { print a.a; a(a).a = 1; return a; } fn main() { var main: P = a(nil); var len: int = len(\"\") + main.a; main(); print len; }")
	if slot, is := names.Slot(p, 5, "len"); slot != 1 || !is {
		t.Error("len:", slot, is)
	}
	for _, source := range []string{
		"rec A { a: A; b: int; } rec B { a: A; b: B; a_: int; } fn main() {}",
		"fn f(a: int, f: int) { var g: int = f; f(a, g); } fn g() { g(); } fn main() { var f: int = 1; f(f, f); }",
		"fn len_() {} fn str_() {} fn text_() {} fn main() { var text: int = 1; print text(text); }",
		"fn main() { var int_: int = 1; var rand: int = rand(1); var read: int = read() + rand; print read; }",
	} {
		if !wantAsSaid(t, treeOf(t, source)) {
			t.Error("refused:", source)
		}
	}
}

// wantSight asks of each point which names are seen there, with their slots: "a0 b1".
func wantSight(t *testing.T, source string, want ...string) {
	t.Helper()
	p := programOf(t, source)
	if len(p.Points) != len(want) {
		t.Fatalf("%s: %d points, want %d", source, len(p.Points), len(want))
	}
	for point := range want {
		var seen []string
		for _, v := range names.Seen(p, point) {
			seen = append(seen, fmt.Sprint(v.Name, v.Slot))
			if slot, is := names.Slot(p, point, v.Name); slot != v.Slot || !is {
				t.Errorf("%s: at %d Slot of %s is %d, %v, want %d", source, point, v.Name, slot, is, v.Slot)
			}
		}
		if got := strings.Join(seen, " "); got != want[point] {
			t.Errorf("%s: at %d seen are %q, want %q", source, point, got, want[point])
		}
	}
	wantAsSaid(t, p.Nodes)
}

func TestSight(t *testing.T) { // P9.1
	wantSight(t, "fn main() {}")
	wantSight(t, "fn f(a: int) {} fn main() { return; }", "")
	wantSight(t, "fn f(a: int, b: int) { return; print a; } fn main() { return; } fn g(c: int) { print c; }", "a0 b1", "a0 b1", "", "c0")
	wantSight(t, "fn main() { var a: int = 1; var b: int = a; print b; }", "", "a0", "a0 b1")
	wantSight(t, "fn main() { if true { var a: int = 1; print a; } print 1; }", "", "", "a0", "")
	wantSight(t, "fn main() { if true { var a: int = 1; print a; } else { var a: int = 2; print a; } var a: int = 3; print a; }", "", "", "a0", "", "a1", "", "a2")
	wantSight(t, "fn main() { var a: int = 1; while true { print a; var a: int = a; print a; } print a; }", "", "a0", "a0", "a0", "a1", "a0")
	wantSight(t, "fn f(a: int) { if a == 1 { var a: int = a; if a == 2 { var a: int = a; print a; } print a; } print a; } fn main() {}", "a0", "a0", "a1", "a1", "a2", "a1", "a0")
	wantSight(t, "fn main() { var a: int = 1; var b: int = 2; if true { var b: int = 3; var a: int = 4; if true { return; } } return; }", "", "a0", "a0 b1", "a0 b1", "a0 b2", "b2 a3", "b2 a3", "a0 b1")
	wantSight(t, "fn main() { while true { var a: int = 1; } if true { while true {} } else { if true {} } return; }", "", "", "", "", "", "")
	wantSight(t, "fn main() { var c: int = 1; if true {} else { var b: int = 1; print b; } var a: int = 1; return; }", "", "c0", "c0", "c0 b1", "c0", "c0 a2")
	wantSight(t, "fn main() { if true { if true { var a: int = 1; if true { var b: int = 1; } } } }", "", "", "", "a0", "a0")
	wantSight(t, "fn main() { if true { if true { var a: int = 1; } } if true { var a: int = 1; if true { return; } } }", "", "", "", "", "", "a1", "a1")
}

func TestPointsThatAreNotThere(t *testing.T) { // P9.1
	for _, p := range []api.Prog{
		programOf(t, "fn f(a: int) { print a; var b: int = 1; } fn main() {}"),
		programOf(t, "fn main() {}"),
		programOf(t, "fn f(a: int) {} fn main() {}"),
		{},
	} {
		for _, point := range points(p) {
			if point < 0 || point >= len(p.Points) {
				wantSeen(t, p, point, nil)
			}
		}
	}
}

// wantLists asks for the lists of a program's table, as they stand.
func wantLists(t *testing.T, source string, want ...api.Type) {
	t.Helper()
	p := programOf(t, source)
	if lists := p.Types[6+len(p.Recs):]; !slices.Equal(lists, want) {
		t.Errorf("%s: %v, want %v", source, lists, want)
	}
	wantAsSaid(t, p.Nodes)
}

func list(of int) api.Type { return api.Type{Kind: api.ListKind, Of: of} }

func TestTypesAsTheyAreMet(t *testing.T) { // P9.1
	wantLists(t, "fn main() {}")
	wantLists(t, "rec P { a: P; } fn f(a: P): int {} fn main() { print make P(); }")
	wantLists(t, "fn main() { var a: [[int]] = make [str](len(make [bool](1))); } fn f(a: [comp]): [[[int]]] {} rec P { a: [P]; }", list(6), list(4), list(1), list(9), list(10), list(3), list(2))
	wantLists(t, "fn f(): [bool] { var a: [str] = nil; } fn main() {} fn g(a: [int], b: [bool]): [int] { print make [comp](1); }", list(2), list(1), list(3), list(4))
	wantLists(t, "rec P { a: [Q]; b: [int]; } rec Q { a: [P]; b: [Q]; } fn main() { print len(make [str](1)) + len(make [[Q]](len(make [comp](1)))); }", list(7), list(1), list(6), list(3), list(8), list(4))
	wantLists(t, "fn main() { make_(make [int](1), make [bool](2)); if len(make [str](1)) == 1 { nil[make [comp](1)] = make [[comp]](2); } } fn make_() {}", list(1), list(2), list(3), list(4), list(9))
}

func TestMarks(t *testing.T) { // P9.1
	p := programOf(t, "fn main() { var a: [[P]] = make [[P]](1); g(a, make Q()); }\nrec P { x: int; y: [P]; }\nrec Q {}\nfn g(b: [[P]], c: Q): bool { if true { a(); } else { c.x = len(b[0]); } while !nil { return -1 + 2i; } print \"\"; return; } fn a() {}")
	want := []string{
		// KProg; main, its result and block: a is of type 9.
		"{0 0 0}", "{0 0 0}", "{0 0 0}", "{0 0 0}",
		// var a; [[P]], [P], P; make, its type, 1.
		"{9 0 0}", "{9 0 0}", "{8 0 0}", "{6 0 0}", "{9 0 0}", "{9 0 0}", "{8 0 0}", "{6 0 0}", "{0 0 0}",
		// g(a, make Q());
		"{0 0 1}", "{0 1 0}", "{9 0 0}", "{7 0 0}", "{7 0 0}",
		// P, its fields; Q.
		"{0 0 0}", "{1 0 0}", "{1 0 0}", "{8 0 0}", "{8 0 0}", "{6 0 0}", "{0 1 0}",
		// g, its parameters, result and block.
		"{2 1 0}", "{9 0 0}", "{9 0 0}", "{8 0 0}", "{6 0 0}", "{7 0 0}", "{7 0 0}", "{2 0 0}", "{0 0 0}",
		// if true { a(); } else { c.x = len(b[0]); }
		"{0 0 2}", "{0 0 0}", "{0 0 0}", "{0 0 3}", "{0 2 0}", "{0 0 0}", "{0 0 4}", "{0 0 0}", "{7 1 0}", "{0 -1 0}", "{0 0 0}", "{9 0 0}", "{0 0 0}",
		// while !nil { return -1 + 2i; } print ""; return;
		"{0 0 5}", "{0 0 0}", "{0 0 0}", "{0 0 0}", "{0 0 6}", "{0 0 0}", "{0 0 0}", "{0 0 0}", "{0 0 0}", "{0 0 7}", "{0 0 0}", "{0 0 8}",
		// a, its result and block.
		"{0 2 0}", "{0 0 0}", "{0 0 0}",
	}
	if len(p.Marks) != len(want) {
		t.Fatalf("%d marks, want %d", len(p.Marks), len(want))
	}
	for at, mark := range p.Marks {
		if got := fmt.Sprint(mark); got != want[at] {
			t.Errorf("at %d, %+v: %s, want %s", at, p.Nodes[at], got, want[at])
		}
	}
	wantAsSaid(t, p.Nodes)
}

func TestMarksOfFunctionsThatAreThere(t *testing.T) { // P9.1
	p := programOf(t, "fn main() { len(); text(); re(); im(); pair(); chr(); read(); rand(); f(); main(); } fn f() {}")
	var refs []int
	for at, n := range p.Nodes {
		if n.Kind == api.KCall {
			refs = append(refs, p.Marks[at].Ref)
		}
	}
	if want := []int{-1, -2, -3, -4, -5, -6, -7, -8, 1, 0}; !slices.Equal(refs, want) {
		t.Error("calls:", refs, "want", want)
	}
}

func TestAllOfAProgram(t *testing.T) { // P9.1
	l := treeOf(t, "fn g(a: str, b: [Q]): [Q] {\n return b; }\nrec P { x: int; y: str; }\nrec N {}\nrec Q { y: P; }\nfn main() { if true {\n  var c: comp = 1i; } while true { var d: Q = nil; print d; } }\nfn h(e: P) {}")
	p, fault := names.Resolve(l)
	want := api.Prog{
		Nodes: l, Marks: p.Marks,
		Types:  []api.Type{{}, {Kind: 1}, {Kind: 2}, {Kind: 3}, {Kind: 4}, {Kind: 5}, {Kind: 6, Of: 0}, {Kind: 6, Of: 1}, {Kind: 6, Of: 2}, {Kind: 7, Of: 8}},
		Recs:   []api.Rec{{Name: "P", From: 0, Count: 2}, {Name: "N", From: 2, Count: 0}, {Name: "Q", From: 2, Count: 1}},
		Fields: []api.Field{{Name: "x", Type: 1}, {Name: "y", Type: 3}, {Name: "y", Type: 6}},
		Fns: []api.Fn{
			{Name: "g", Node: 1, Params: 2, Result: 9, At: 0, Slots: 2, First: 0, Points: 1},
			{Name: "main", Node: 21, Params: 0, Result: 0, At: 2, Slots: 2, First: 1, Points: 5},
			{Name: "h", Node: 38, Params: 1, Result: 0, At: 4, Slots: 1, First: 6, Points: 0},
		},
		Slots: []int{3, 9, 4, 8, 6},
		Vars: []api.Var{
			{Fn: 0, Name: "a", Slot: 0, First: 0, Last: 1}, {Fn: 0, Name: "b", Slot: 1, First: 0, Last: 1},
			{Fn: 1, Name: "c", Slot: 0, First: 3, Last: 3}, {Fn: 1, Name: "d", Slot: 1, First: 5, Last: 6},
			{Fn: 2, Name: "e", Slot: 0, First: 6, Last: 6},
		},
		Points: []api.Point{
			{Fn: 0, Node: 10, Line: 2, Col: 2}, {Fn: 1, Node: 24, Line: 6, Col: 13}, {Fn: 1, Node: 27, Line: 7, Col: 3},
			{Fn: 1, Node: 30, Line: 7, Col: 23}, {Fn: 1, Node: 33, Line: 7, Col: 36}, {Fn: 1, Node: 36, Line: 7, Col: 52},
		},
	}
	if fault != (api.Fault{}) || !same(p, want) {
		t.Errorf("%+v, %v, want\n%+v", p, fault, want)
	}
	wantAsSaid(t, l)
}
