package check_test

import (
	"fmt"
	"slices"
	"strings"
	"testing"

	"hindcast/api"
	"hindcast/check"
	"hindcast/names"
	"hindcast/parse"
	"hindcast/tree"
)

// shown is a row, a program or a text cut short: all may be long.
func shown(what any) string { return fmt.Sprintf("%.600s", fmt.Sprintf("%+v", what)) }

// same tells whether two programs are the same; an empty list is the same as none.
func same(a, b api.Prog) bool {
	return slices.Equal(a.Nodes, b.Nodes) && slices.Equal(a.Marks, b.Marks) && slices.Equal(a.Types, b.Types) &&
		slices.Equal(a.Recs, b.Recs) && slices.Equal(a.Fields, b.Fields) && slices.Equal(a.Fns, b.Fns) &&
		slices.Equal(a.Slots, b.Slots) && slices.Equal(a.Vars, b.Vars) && slices.Equal(a.Points, b.Points)
}

// treeOf is a source's tree.
func treeOf(t *testing.T, source string) []api.Node {
	t.Helper()
	l, fault := parse.Parse(source)
	if fault.Code != api.OK {
		t.Fatalf("%s: %v", shown(source), fault)
	}
	return l
}

// exprOf is an expression's tree.
func exprOf(t *testing.T, text string) []api.Node {
	t.Helper()
	l, fault := parse.Expr(text)
	if fault.Code != api.OK {
		t.Fatalf("%s: %v", shown(text), fault)
	}
	return l
}

// programOf is what a source without faults is answered.
func programOf(t *testing.T, source string) api.Prog {
	t.Helper()
	p, fault := check.Source(source)
	if fault != (api.Fault{}) {
		t.Fatalf("%s: %v", shown(source), fault)
	}
	return p
}

func wantFaultOf(t *testing.T, l []api.Node, want api.Fault) {
	t.Helper()
	if p, fault := check.Check(l); fault != want || !same(p, api.Prog{}) {
		t.Errorf("Check(%s): %s, %v, want %v", shown(l), shown(p), fault, want)
	}
}

func wantExprFault(t *testing.T, p api.Prog, point int, l []api.Node, want api.Fault) {
	t.Helper()
	if marks, table, fault := check.Expr(p, point, l); fault != want || len(marks) > 0 || len(table) > 0 {
		t.Errorf("Expr(%s, %d, %s): %s, %s, %v, want %v", shown(p.Nodes), point, shown(l), shown(marks), shown(table), fault, want)
	}
}

// unmarked is a text, and a fault of it where ^ stands, or nowhere, if it doesn't.
func unmarked(marked string, code api.Errno) (string, api.Fault) {
	ahead, behind, isMarked := strings.Cut(marked, "^")
	fault := api.Fault{Code: code}
	if isMarked {
		fault.Line = 1 + strings.Count(ahead, "\n")
		fault.Col = len(ahead) - strings.LastIndex(ahead, "\n")
	}
	return ahead + behind, fault
}

// wantFault asks for a fault where ^ stands in a source.
func wantFault(t *testing.T, marked string, code api.Errno) {
	t.Helper()
	source, want := unmarked(marked, code)
	if p, fault := check.Source(source); fault != want || !same(p, api.Prog{}) {
		t.Errorf("Source(%s): %s, %v, want %v", shown(marked), shown(p), fault, want)
	}
}

// wantRight asks for no fault, wherever ^ stands.
func wantRight(t *testing.T, marked string) {
	t.Helper()
	if _, fault := check.Source(strings.ReplaceAll(marked, "^", "")); fault != (api.Fault{}) {
		t.Errorf("Source(%s): %v, want none", shown(marked), fault)
	}
}

// want asks for no fault, if it is to be right, or for an ErrType where ^ stands.
func want(t *testing.T, isRight bool, marked string) {
	t.Helper()
	if isRight {
		wantRight(t, marked)
	} else {
		wantFault(t, marked, api.ErrType)
	}
}

// wantAsSaid asks all of a row what is said apart from the program, and answers the fault's number.
func wantAsSaid(t *testing.T, l []api.Node) api.Errno {
	t.Helper()
	saidP, want := saidOf(l)
	if want != (api.Fault{}) {
		wantFaultOf(t, l, want)
		return want.Code
	}
	if p, fault := check.Check(l); fault != want || !same(p, saidP) {
		t.Fatalf("Check(%s):\n%+v, %v, want\n%+v", shown(l), p, fault, saidP)
	}
	return api.OK
}

// isExpressionsTree tells whether a row stands in a program's tree, when it is put there as an expression.
func isExpressionsTree(l []api.Node) bool {
	return tree.May(slices.Concat([]api.Node{
		{Kind: api.KProg, Size: len(l) + 4}, {Kind: api.KFn, Text: "f", Size: len(l) + 3}, {Kind: api.KNoneT},
		{Kind: api.KBlock, Size: len(l) + 1}, {Kind: api.KReturn, Size: len(l)},
	}, l)) && len(l) > 0
}

// wantExprAsSaid asks of an expression at a point what is said apart from the program, and answers the fault's number.
func wantExprAsSaid(t *testing.T, p api.Prog, point int, l []api.Node) api.Errno {
	t.Helper()
	if !isExpressionsTree(l) {
		wantExprFault(t, p, point, l, api.Fault{Code: api.ErrArg})
		return api.ErrArg
	}
	wantMarks, wantTypes, want := saidOfExpr(p, point, l)
	if want != (api.Fault{}) {
		wantExprFault(t, p, point, l, want)
		return want.Code
	}
	marks, table, fault := check.Expr(p, point, l)
	p.Types = table
	if fault != want || !slices.Equal(marks, wantMarks) || !slices.Equal(saidOver(p, nil, nil).types, wantTypes) {
		t.Errorf("Expr(%s, %d, %s):\n%v, %v, %v, want\n%v, %v", shown(p.Nodes), point, shown(l), marks, table, fault, wantMarks, wantTypes)
	}
	return api.OK
}

// prelude has a function that takes a value of each type, and answers one; many has the parameters of each type.
const (
	records = "rec P { x: int; p: P; l: [P]; }\nrec Q { x: str; y: comp; }\n"
	takers  = "fn no() {}\nfn ti(a: int): bool { return true; }\nfn tc(a: comp): Q { return nil; }\nfn ts(a: str): comp { return 1i; }\nfn tb(a: bool): str { return \"\"; }\n" +
		"fn tp(a: P): [int] { return nil; }\nfn tq(a: Q): P { return nil; }\nfn tl(a: [int]): [[int]] { return nil; }\nfn tm(a: [[int]]): int { return 1; }\nfn two(a: int, b: P): int { return a; }\n"
	prelude = records + takers + "fn main() {}\n"
	many    = "(i: int, c: comp, s: str, b: bool, p: P, q: Q, l: [int], m: [[int]])"
)

// inAll is a program with a statement among names of all types.
func inAll(statement string) string { return prelude + "fn all" + many + " {\n" + statement + "\n}" }

// kindsOfTypes are types of each kind.
func kindsOfTypes() []string {
	return []string{"int", "comp", "str", "bool", "nil", "P", "Q", "[int]", "[[int]]", "none"}
}

// ofType are expressions of a type: a name and others.
func ofType(is string) []string {
	return map[string][]string{
		"int": {"i", "7", "tm(nil)"}, "comp": {"c", "2i"}, "str": {"s", `"x"`}, "bool": {"b", "false"}, "nil": {"nil"},
		"P": {"p", "make P()"}, "Q": {"q", "make Q()"}, "[int]": {"l", "make [int](3)"}, "[[int]]": {"m", "make [[int]](3)"}, "none": {"no()"},
	}[is]
}

// wantExpression asks for an expression's type, in a program and by itself; if it is empty, for a fault where ^ stands.
func wantExpression(t *testing.T, marked, is string, code api.Errno) {
	t.Helper()
	text, fault := unmarked(marked, code)
	program := programOf(t, inAll("return;"))
	e := exprOf(t, text)
	point := len(program.Points) - 1
	if is == "" {
		wantFault(t, inAll("print "+marked+";"), code)
		wantExprFault(t, program, point, e, fault)
		return
	}
	if marks, table, got := check.Expr(program, point, e); got != (api.Fault{}) {
		t.Errorf("%s by itself: %v, want %s", text, got, is)
	} else if program.Types = table; saidOver(program, nil, nil).types[marks[0].Type] != is {
		t.Errorf("%s by itself: type %d, want %s", text, marks[0].Type, is)
	}
	if is == "none" {
		return
	}
	p := programOf(t, inAll("print "+text+";"))
	if got := saidOver(p, nil, nil).types[p.Marks[len(p.Marks)-len(e)].Type]; got != is {
		t.Errorf("%s: %s, want %s", text, got, is)
	}
}

func TestExamples(t *testing.T) { // P10.1
	wantFault(t, "fn main() { print 1 ^+ true; }", api.ErrType)
	if _, fault := check.Source("fn main() { print 1 + true; }"); fault != (api.Fault{Code: api.ErrType, Line: 1, Col: 21}) {
		t.Error(fault)
	}
	if _, fault := check.Source("fn f(): int { if true { return 1; } }\nfn main() {}"); fault != (api.Fault{Code: api.ErrReturn, Line: 1, Col: 1}) {
		t.Error(fault)
	}
	programOf(t, "fn main() { print 1 + 2; }")
}

func TestSource(t *testing.T) { // P10.1
	for marked, code := range map[string]api.Errno{
		"fn main() { print ^12a; }":                                  api.ErrToken,
		"fn main() { print 1 + true; } ^$":                           api.ErrToken,
		"fn main() { print ^9223372036854775808; }":                  api.ErrOver,
		"fn main() { print 1 + true; } fn^":                          api.ErrParse,
		"fn main() { print 1 + true ^}":                              api.ErrParse,
		"fn main() { print " + strings.Repeat("-", 39) + "^-1; }":    api.ErrDeep,
		strings.Repeat("#", api.MaxText+1):                           api.ErrLong,
		"":                                                           api.ErrMain,
		"fn f() { print 1 + true; }":                                 api.ErrMain,
		"fn main() { print 1 + true; print ^x; }":                    api.ErrName,
		"fn main() { print 1 + true; } fn f() {} ^fn f() {}":         api.ErrTwice,
		"fn f(): int {} fn main() { print make ^P(); }":              api.ErrName,
		"fn f(): int { print 1 + true; } ^fn main(): int {}":         api.ErrMain,
		"fn main() { print 1 ^+ true; } fn f() { print 1 + true; }":  api.ErrType,
		"fn main() { f(); ^f(1); } fn f() {}":                        api.ErrCount,
		"rec P { x: int; } fn main() { print make P()^.y; }":         api.ErrName,
		"fn main() {} ^fn f(): int {}":                               api.ErrReturn,
		"fn main() { print 1 < 2; }\n\nfn f(): int { ^return; }":     api.ErrType,
		"fn main() { print 1 ^< 2i; }\n\nfn f(): int { return 1i; }": api.ErrType,
	} {
		wantFault(t, marked, code)
	}
	source := "rec P { x: int; }\nfn f(a: [P]): int {\n\treturn a[0].x;\n}\nfn main() { print f(nil); }"
	p, fault := check.Source(source)
	if q, other := check.Check(treeOf(t, source)); fault != other || !same(p, q) || len(p.Points) != 2 {
		t.Error("Source is not Check of the tree:", fault, other)
	}
}

func TestNoProgramsTree(t *testing.T) { // P10.1, P0.1, P0.4
	whole := treeOf(t, "fn main() { print 1; }")
	wrong := [][]api.Node{
		nil, {}, {{}}, {{Kind: api.KProg, Size: -1}}, {{Kind: api.KProg, Text: "p"}}, exprOf(t, "1 + true"), one(api.KInt), one(api.KBlock), one(api.KNoneT),
		whole[1:], whole[:3], append(slices.Clone(whole), whole...), node(api.Node{Kind: api.KProg}, one(api.KReturn)),
	}
	for at := range whole {
		l := slices.Clone(whole)
		l[at].Size++
		wrong = append(wrong, l, slices.Delete(slices.Clone(whole), at, at+1))
		l = slices.Clone(whole)
		l[at].Kind = 99
		wrong = append(wrong, l)
	}
	for _, l := range wrong {
		wantFaultOf(t, l, api.Fault{Code: api.ErrArg})
	}
	wantFaultOf(t, one(api.KProg), api.Fault{Code: api.ErrMain})
	for _, source := range []string{"fn main() { x = 1; }", "rec P {} rec P {} fn main() {}", "fn f() {}", "fn main(a: int) {}", "fn main() { len(f()); }"} {
		_, want := names.Resolve(treeOf(t, source))
		wantFaultOf(t, treeOf(t, source), want)
	}
}

func TestPlainExpressions(t *testing.T) { // P10.1
	for _, is := range kindsOfTypes() {
		for _, e := range ofType(is) {
			wantExpression(t, e, is, api.OK)
			wantExpression(t, "("+e+")", is, api.OK)
		}
	}
	for e, is := range map[string]string{"0": "int", "true": "bool", `""`: "str", "0i": "comp", "make [P](0)": "[P]", "make [[[bool]]](i)": "[[[bool]]]", "make [Q](make [int](1)[0])": "[Q]"} {
		wantExpression(t, e, is, api.OK)
	}
}

func TestTwoOperands(t *testing.T) { // P10.1
	alike := "int=bool comp=bool str=bool bool=bool P=bool Q=bool [int]=bool [[int]]=bool"
	rules := map[string]string{
		"+": "int=int str=str comp=comp", "-": "int=int comp=comp", "*": "int=int comp=comp", "/": "int=int", "%": "int=int",
		"<": "int=bool", "<=": "int=bool", ">": "int=bool", ">=": "int=bool", "&&": "bool=bool", "||": "bool=bool", "==": alike, "!=": alike,
	}
	count := 0
	for sign, rule := range rules {
		for _, left := range kindsOfTypes() {
			for _, right := range kindsOfTypes() {
				answer := ""
				for _, row := range strings.Fields(rule) {
					if of, is, _ := strings.Cut(row, "="); of == left && of == right {
						answer = is
					}
				}
				if isEqual := sign == "==" || sign == "!="; isEqual && (left == "nil" && mayBeNil(right) || right == "nil" && mayBeNil(left)) {
					answer = "bool"
				}
				for _, l := range ofType(left) {
					for _, r := range ofType(right) {
						count++
						wantExpression(t, l+" ^"+sign+" "+r, answer, api.ErrType)
					}
				}
			}
		}
	}
	if count < 3000 {
		t.Error("too few:", count)
	}
}

func mayBeNil(is string) bool { return slices.Contains([]string{"P", "Q", "[int]", "[[int]]"}, is) }

func TestListsOfOtherTypesAreHeldAgainstNoOther(t *testing.T) { // P10.1
	for _, marked := range []string{"make [P](1) ^== make [Q](1)", "l ^!= make [str](1)", "make [P](1) ^== p", "m[0] ^== m", "p.l ^== p", "make [[P]](1) ^!= make [[Q]](1)"} {
		wantExpression(t, marked, "", api.ErrType)
	}
	for _, e := range []string{"make [P](1) == p.l", "m[0] == l", "p.p != p", "nil == p.l[0]", "make [[P]](1)[0] != nil", "p.l == make [P](1)"} {
		wantExpression(t, e, "bool", api.OK)
	}
}

func TestOneOperand(t *testing.T) { // P10.1
	rules := map[string]string{"- int": "int", "- comp": "comp", "! bool": "bool"}
	for _, sign := range []string{"-", "!"} {
		for _, is := range kindsOfTypes() {
			for _, e := range ofType(is) {
				wantExpression(t, sign+"^"+e, rules[sign+" "+is], api.ErrType)
				wantExpression(t, sign+sign+"^"+e, rules[sign+" "+is], api.ErrType)
			}
		}
	}
	wantExpression(t, "-(1 < l[0] ^+ s)", "", api.ErrType)
	wantExpression(t, "-(1 ^< 2)", "", api.ErrType) // what is told is the operand, whose place is its sign
}

func TestIndex(t *testing.T) { // P10.1
	rules := map[string]string{"str": "int", "[int]": "int", "[[int]]": "[int]"}
	for _, of := range kindsOfTypes() {
		for _, by := range kindsOfTypes() {
			for _, o := range ofType(of) {
				for _, b := range ofType(by) {
					switch answer := rules[of]; {
					case answer == "":
						wantExpression(t, "^"+o+"["+b+"]", "", api.ErrType)
					case by != "int":
						wantExpression(t, o+"[^"+b+"]", "", api.ErrType)
					default:
						wantExpression(t, o+"["+b+"]", answer, api.OK)
					}
				}
			}
		}
	}
	for marked, is := range map[string]string{"m[0][1]": "int", "s[s[0]]": "int", "p.l[i]": "P", "q.x[0]": "int", "make [[[P]]](1)[0]": "[[P]]", "m[0]^[1][2]": "", "s^[0][0]": "", "p^.x[0]": "", "l[m^[0]]": "", "l[q^.x]": ""} {
		wantExpression(t, marked, is, api.ErrType)
	}
}

func TestDot(t *testing.T) { // P10.1
	fields := map[string]string{"P.x": "int", "P.p": "P", "P.l": "[P]", "Q.x": "str", "Q.y": "comp"}
	for _, of := range kindsOfTypes() {
		for _, o := range ofType(of) {
			for _, field := range []string{"x", "p", "l", "y", "z", "len", "xx", "i"} {
				switch is := fields[of+"."+field]; {
				case of != "P" && of != "Q":
					wantExpression(t, "^"+o+"."+field, "", api.ErrType)
				default:
					wantExpression(t, o+"^."+field, is, api.ErrName)
				}
			}
		}
	}
	wantExpression(t, "p.p.l[0].p.x", "int", api.OK)
	wantExpression(t, "p.p^.y.x", "", api.ErrName)
	wantExpression(t, "p^.l.x", "", api.ErrType)
	wantExpression(t, "q.y ^+ p.x", "", api.ErrType)
}

func TestRefOfDot(t *testing.T) { // P10.1
	p := programOf(t, "rec N {}\nrec P { x: int; p: P; }\nrec Q { p: P; y: comp; x: str; q: Q; }\nfn f(p: P, q: Q) { print p.x; print p.p.x; print q.x; print q.q.p.p; print q.y; q.q.q = q.q; } fn main() {}")
	var refs, slots []int
	for at, n := range p.Nodes {
		switch n.Kind {
		case api.KDot:
			refs = append(refs, p.Marks[at].Ref)
		case api.KName:
			slots = append(slots, p.Marks[at].Ref)
		}
	}
	if want := []int{0, 0, 1, 2, 1, 0, 3, 1, 3, 3, 3}; !slices.Equal(refs, want) {
		t.Error("fields:", refs, "want", want)
	}
	if want := []int{0, 0, 1, 1, 1, 1, 1}; !slices.Equal(slots, want) {
		t.Error("slots:", slots, "want", want)
	}
}

func TestMake(t *testing.T) { // P10.1
	for _, by := range kindsOfTypes() {
		for _, b := range ofType(by) {
			for _, of := range []string{"[int]", "[[int]]", "[P]", "[str]"} {
				if by == "int" {
					wantExpression(t, "make "+of+"("+b+")", of, api.OK)
				} else {
					wantExpression(t, "make "+of+"(^"+b+")", "", api.ErrType)
				}
			}
		}
	}
}

func TestFunctionsThatAreThere(t *testing.T) { // P10.1
	answers := map[string]string{
		"len str": "int", "len [int]": "int", "len [[int]]": "int", "text int": "str", "text bool": "str", "text comp": "str", "re comp": "int", "im comp": "int", "chr int": "str", "rand int": "int",
	}
	for _, name := range []string{"len", "text", "re", "im", "chr", "rand"} {
		wantExpression(t, "^"+name+"()", "", api.ErrCount)
		for _, is := range kindsOfTypes() {
			for _, e := range ofType(is) {
				wantExpression(t, name+"(^"+e+")", answers[name+" "+is], api.ErrType)
				wantExpression(t, "^"+name+"("+e+", "+e+")", "", api.ErrCount)
				wantExpression(t, "^"+name+"(1, "+e+", 1)", "", api.ErrCount)
			}
		}
	}
	wantExpression(t, "read()", "int", api.OK)
	wantExpression(t, "^pair()", "", api.ErrCount)
	for _, left := range kindsOfTypes() {
		for _, l := range ofType(left) {
			wantExpression(t, "^read("+l+")", "", api.ErrCount)
			wantExpression(t, "^read("+l+", 1)", "", api.ErrCount)
			wantExpression(t, "^pair("+l+")", "", api.ErrCount)
			wantExpression(t, "^pair(1, "+l+", 1)", "", api.ErrCount)
			for _, right := range kindsOfTypes() {
				for _, r := range ofType(right) {
					switch {
					case left != "int":
						wantExpression(t, "pair(^"+l+", "+r+")", "", api.ErrType)
					case right != "int":
						wantExpression(t, "pair("+l+", ^"+r+")", "", api.ErrType)
					default:
						wantExpression(t, "pair("+l+", "+r+")", "comp", api.OK)
					}
				}
			}
		}
	}
	for e, is := range map[string]string{"len(make [P](1))": "int", "len(text(re(pair(read(), rand(9)))))": "int", "text(len(chr(1)) == 1)": "str"} {
		wantExpression(t, e, is, api.OK)
	}
}

func TestCalls(t *testing.T) { // P10.1
	results := map[string]string{"ti": "bool", "tc": "Q", "ts": "comp", "tb": "str", "tp": "[int]", "tq": "P", "tl": "[[int]]", "tm": "int"}
	wants := map[string]string{"ti": "int", "tc": "comp", "ts": "str", "tb": "bool", "tp": "P", "tq": "Q", "tl": "[int]", "tm": "[[int]]"}
	for name, result := range results {
		for _, is := range kindsOfTypes() {
			for _, e := range ofType(is) {
				answer := ""
				if is == wants[name] || is == "nil" && mayBeNil(wants[name]) {
					answer = result
				}
				wantExpression(t, name+"(^"+e+")", answer, api.ErrType)
				wantExpression(t, "^"+name+"("+e+", "+e+")", "", api.ErrCount)
			}
		}
		wantExpression(t, "^"+name+"()", "", api.ErrCount)
	}
	for marked, code := range map[string]api.Errno{
		"^two()": api.ErrCount, "^two(1)": api.ErrCount, "^two(1, p, 1)": api.ErrCount, "^two(1, p, p, p)": api.ErrCount, "^no(1)": api.ErrCount, "^main(nil)": api.ErrCount,
		"^two(true)": api.ErrCount, "^two(nil, 1, 2)": api.ErrCount, "two(^true, p)": api.ErrType, "two(1, ^q)": api.ErrType, "two(^p, i)": api.ErrType, "two(1, ^1)": api.ErrType,
		"two(^true, q)": api.ErrType, "two(1 ^+ s)": api.ErrType, "two(true, 1 ^+ s)": api.ErrType, "two(^two(), true)": api.ErrCount, "two(1 + s^[0][0], q.z)": api.ErrType,
		"two(two(1, ^l), p.z)": api.ErrType, "two(ti(^q), 1, 1)": api.ErrType, "len(1 ^+ s, 1)": api.ErrType, "len(^len(), 1)": api.ErrCount,
	} {
		wantExpression(t, marked, "", code)
	}
	wantExpression(t, "two(1, p)", "int", api.OK)
	wantExpression(t, "two(two(i, nil), tq(nil))", "int", api.OK)
	wantExpression(t, "no()", "none", api.OK)
	wantExpression(t, "main()", "none", api.OK)
}

func TestCallsOfFunctionsFurtherOn(t *testing.T) { // P10.1
	wantRight(t, "fn main() { var a: [P] = f(1, g()); } rec P {} fn f(a: int, b: P): [P] { return make [P](a); } fn g(): P { return g(); }")
	wantFault(t, "fn main() { var a: [P] = f(g(), ^g()); } rec P {} fn f(a: P, b: int): [P] { return make [P](b); } fn g(): P { return nil; }", api.ErrType)
	wantFault(t, "fn main() { var a: [P] = ^f(g()); } rec P {} fn f(a: P, b: int): [P] { return make [P](b); } fn g(): P { return nil; }", api.ErrCount)
	wantFault(t, "fn main() { if ^f() {} } fn f(): int { return true; }", api.ErrType)
}

func TestWithinFirst(t *testing.T) { // P10.1, P0.2
	for marked, code := range map[string]api.Errno{
		"(1 ^+ true) + (2 * true)":         api.ErrType,
		"(1 + 1) + (2 ^* true)":            api.ErrType,
		"s + (2 ^* true)":                  api.ErrType,
		"(2 ^* true) + s":                  api.ErrType,
		"-(1 ^+ s)":                        api.ErrType,
		"(1 ^+ s)[true]":                   api.ErrType,
		"i[1 ^+ s]":                        api.ErrType,
		"^i[true]":                         api.ErrType,
		"^nil[true]":                       api.ErrType,
		"l[^true][true]":                   api.ErrType,
		"i[p^.z]":                          api.ErrName,
		"p^.z[l.x]":                        api.ErrName,
		"i[^l.x]":                          api.ErrType,
		"l[p^.y]":                          api.ErrName,
		"p.p^.y.z":                         api.ErrName,
		"^i.z":                             api.ErrType,
		"(1 ^+ s).x":                       api.ErrType,
		"make [int](1 ^+ s)":               api.ErrType,
		"make [int](^two())":               api.ErrCount,
		"make [int](^s) == make [int](s)":  api.ErrType,
		"make [int](1) == make [int](^s)":  api.ErrType,
		"p == make [int](^s)":              api.ErrType,
		"^two() + q.z":                     api.ErrCount,
		"q^.z + two()":                     api.ErrName,
		"true && ^two() && q.z":            api.ErrCount,
		"true && q^.z && two()":            api.ErrName,
		"1 + 2 ^+ true + q.z":              api.ErrType,
		"1 + 2 + q^.z + true":              api.ErrName,
		"1 + true * ^two()":                api.ErrCount,
		"!(p ^== q) == i":                  api.ErrType,
		"len(text(chr(^true)))":            api.ErrType,
		"ti(tm(tl(tp(tq(^p)))))":           api.ErrType,
		"tm(tl(^tm(nil)))":                 api.ErrType,
		"two(tm(m), make P()^.z, two())":   api.ErrName,
		"two(^two(), make P().z)":          api.ErrCount,
		"pair(pair(1, ^c), pair(c, true))": api.ErrType,
	} {
		wantExpression(t, marked, "", code)
	}
}
