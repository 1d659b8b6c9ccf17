package parse

import (
	"fmt"
	"slices"
	"strings"
	"testing"

	"hindcast/api"
	"hindcast/lex"
	"hindcast/tree"
)

func words() []string {
	return []string{"rec", "fn", "var", "if", "else", "while", "return", "print", "true", "false", "nil", "make", "int", "bool", "str", "comp"}
}

func signs() []string {
	return []string{"&&", "||", "==", "!=", "<=", ">=", "+", "-", "*", "/", "%", "<", ">", "!", "=", "(", ")", "{", "}", "[", "]", ",", ";", ":", "."}
}

// others are tokens of the other kinds: literals among them with the bytes of signs and words.
func others() []string {
	return []string{"a", "Rec", "7", "3i", `""`, `")"`, `"int"`}
}

func allTokens() []string { return slices.Concat(words(), signs(), others()) }

// face is one of the two functions, with what the grammar calls what it reads.
type face struct {
	name, start string
	call        func(string) ([]api.Node, api.Fault)
	said        func([]api.Token) branch
}

func program() face    { return face{"Parse", "program", Parse, saidProgram} }
func expression() face { return face{"Expr", "alone", Expr, saidExpr} }

// shown is a row cut short: a text may have 32768 nodes.
func shown(l []api.Node) string { return fmt.Sprintf("%.500s", fmt.Sprint(l)) }

// wantRow holds whole nodes against each other: so fields that aren't named must be zero.
func (f face) wantRow(t *testing.T, s string, want []api.Node) {
	t.Helper()
	if got, fault := f.call(s); fault != (api.Fault{}) || !slices.Equal(got, want) {
		t.Errorf("%s(%.200q): %s, %v, want %s", f.name, s, shown(got), fault, shown(want))
	}
}

func (f face) wantTree(t *testing.T, s string, want branch) {
	t.Helper()
	f.wantRow(t, s, want.row())
}

func (f face) wantFault(t *testing.T, s string, code api.Errno, line, col int) {
	t.Helper()
	want := api.Fault{Code: code, Line: line, Col: col}
	if got, fault := f.call(s); len(got) != 0 || fault != want {
		t.Errorf("%s(%.200q): %s, %v, want %v", f.name, s, shown(got), fault, want)
	}
}

// wantBare asks for a tree whatever its places are.
func (f face) wantBare(t *testing.T, s string, want []api.Node) {
	t.Helper()
	if got, fault := f.call(s); fault != (api.Fault{}) || !tree.Same(got, want) {
		t.Errorf("%s(%.200q): %s, %v, want %s", f.name, s, shown(got), fault, shown(want))
	}
}

// wantSaid holds an answer against what the grammar says.
func (f face) wantSaid(t *testing.T, d *said, s string) {
	t.Helper()
	tokens, fault := lex.Tokens(s)
	if fault.Code == api.OK {
		fault = d.fault(f.start, tokens)
	}
	if fault.Code != api.OK {
		f.wantFault(t, s, fault.Code, fault.Line, fault.Col)
		return
	}
	f.wantTree(t, s, f.said(tokens[:len(tokens)-1]))
}

// inProgram is a program's tree in which an expression stands.
func inProgram(l []api.Node) []api.Node {
	return append([]api.Node{
		{Kind: api.KProg, Size: len(l) + 4}, {Kind: api.KFn, Size: len(l) + 3, Text: "f"}, {Kind: api.KNoneT},
		{Kind: api.KBlock, Size: len(l) + 1}, {Kind: api.KPrint, Size: len(l)}}, l...)
}

// inMain is a program with these statements, each in column 1 of a line of its own, from line 2 on.
func inMain(statements ...string) string {
	return "fn main() {\n" + strings.Join(statements, "\n") + "\n}"
}

// mainOf is the tree of inMain.
func mainOf(statements ...branch) branch {
	return at(1, 1, api.KProg, at(1, 1, api.KFn, at(0, 0, api.KNoneT), at(1, 11, api.KBlock, statements...)).text("main"))
}

func name(line, col int, s string) branch    { return at(line, col, api.KName).text(s) }
func whole(line, col int, n int64) branch    { return at(line, col, api.KInt).num(n) }
func recType(line, col int, s string) branch { return at(line, col, api.KRecT).text(s) }
func pair(line, col int, op int64, a, b branch) branch {
	return at(line, col, api.KBin, a, b).num(op)
}

// rows has for each row of the table texts with all that may stand there, and with what may be left out left out; a blank stands between any two tokens.
func rows() []string {
	l := []string{
		"", "rec Rec { }", "fn f ( ) { }", "rec Rec { } fn f ( ) { } rec Other { } fn g ( ) { }",
		"rec Rec { a : int ; }", "rec Rec { a : int ; b : Rec ; c : [ str ] ; }",
		"fn f ( a : int ) { }", "fn f ( a : int , b : [ [ Rec ] ] , c : bool ) { }",
		"fn f ( ) : comp { }", "fn f ( a : str ) : [ int ] { }", "fn f ( a : str , b : bool ) : Rec { return b ; }",
	}
	for _, s := range []string{"int", "bool", "str", "comp", "Rec", "[ int ]", "[ [ Rec ] ]"} {
		l = append(l, "rec Rec { a : "+s+" ; }", "fn f ( a : "+s+" ) : "+s+" { var a : "+s+" = nil ; }", "fn f ( ) { print make [ "+s+" ] ( 3 ) ; }")
	}
	for _, s := range statements() {
		l = append(l, "fn f ( ) { "+s+" }", "fn f ( ) { a = 1 ; "+s+" "+s+" }")
	}
	return l
}

// inStatements are programs in which expressions stand.
func inStatements() []string {
	var l []string
	for _, s := range expressions() {
		l = append(l, "fn f ( ) { print "+s+" ; }", "fn f ( ) { if "+s+" { } }", "fn f ( ) { a [ "+s+" ] = "+s+" ; }")
	}
	return l
}

func statements() []string {
	return []string{
		"var a : int = 3 ;", "var a : [ Rec ] = make [ Rec ] ( 2 ) ;",
		"if a { }", "if a { print a ; }", "if a { } else { }", "if a { print a ; } else { return ; f ( ) ; }", "if a { if b { } } else { if c { } else { } }",
		"while a { }", "while a < 3 { a = a + 1 ; }", "return ;", "return a ;", "return - a [ 0 ] ;", "print a ;", "print ( a ) ;",
		"a = b ;", "a [ 0 ] = b ;", "a . b = c ;", "a [ 0 ] . b [ c ] = d ;", "f ( ) . a = 1 ;", "f ( ) [ 0 ] = 1 ;", "3 . a = 1 ;", "( a ) = b ;", "( ( a [ 0 ] ) ) = b ;", "( a ) . b = 1 ;",
		"f ( ) ;", "f ( a ) ;", "f ( a , b , f ( c ) ) ;", "( f ( ) ) ;", "( ( f ( 1 , 2 ) ) ) ;",
	}
}

func expressions() []string {
	return []string{
		"a || b", "a || b || c", "a && b", "a && b && c", "a == b", "a != b", "a < b", "a <= b", "a > b", "a >= b",
		"a + b", "a - b - c", "a * b", "a / b % c", "- a", "! a", "- ! - a", "- a - - b",
		"a [ b ]", "a . b", "a [ b ] [ c ] . d . e [ f ]", "- a [ b ] . c",
		"1", "2i", `"text"`, "true", "false", "nil", "a", "( a )", "( ( a + b ) )", "( a ) [ b ]",
		"f ( )", "f ( a )", "f ( a , b + 1 , g ( ) )", "f ( ) [ a ]", "f ( ) . a",
		"make Rec ( )", "make [ int ] ( 3 )", "make [ [ Rec ] ] ( a + 1 )", "make Rec ( ) . a", "make [ int ] ( 3 ) [ 0 ]",
		"a || b && c == d < e + f * - g [ h ]", "- a * b + c < d == e && f || g",
	}
}

func TestExamples(t *testing.T) { // P6.1
	expression().wantTree(t, "1 + 2 * x", pair(1, 3, api.OpAdd, whole(1, 1, 1), pair(1, 7, api.OpMul, whole(1, 5, 2), name(1, 9, "x"))))
	expression().wantFault(t, "a == b == c", api.ErrParse, 1, 8)
	program().wantFault(t, "fn f() { 3 = x; }", api.ErrParse, 1, 12)
	program().wantTree(t, "fn main() { print 1 + 2; }", mainOf(at(1, 13, api.KPrint, pair(1, 21, api.OpAdd, whole(1, 19, 1), whole(1, 23, 2)))))
}

func TestEmptyTexts(t *testing.T) { // P6.1
	for _, s := range []string{"", " ", "\t\r\n", "# note", "# note\n", " # a\n\n # b\n\t"} {
		program().wantTree(t, s, at(1, 1, api.KProg))
	}
	expression().wantFault(t, "", api.ErrParse, 1, 1)
	expression().wantFault(t, "  ", api.ErrParse, 1, 3)
	expression().wantFault(t, "# note", api.ErrParse, 1, 7)
	expression().wantFault(t, "\n# note\n ", api.ErrParse, 3, 2)
}

func TestEachRow(t *testing.T) { // P6.1, P6.2
	d := newSaid()
	for _, s := range append(rows(), inStatements()...) {
		if l, fault := Parse(s); fault.Code != api.OK || !tree.May(l) {
			t.Errorf("Parse(%q): %s, %v, want a program's tree", s, shown(l), fault)
		}
		program().wantSaid(t, d, s)
	}
	for _, s := range expressions() {
		if l, fault := Expr(s); fault.Code != api.OK || !tree.May(inProgram(l)) {
			t.Errorf("Expr(%q): %s, %v, want an expression's tree", s, shown(l), fault)
		}
		expression().wantSaid(t, d, s)
	}
}

func TestRecordsByHand(t *testing.T) { // P6.1, P6.2
	program().wantTree(t, "rec P {\n}", at(1, 1, api.KProg, at(1, 1, api.KRec).text("P")))
	program().wantTree(t, "\n rec P1 { x: int; }", at(1, 1, api.KProg,
		at(2, 2, api.KRec, at(2, 11, api.KField, at(2, 14, api.KIntT)).text("x")).text("P1")))
	program().wantTree(t, "rec P { a: bool;\nb : str ; c:comp;d:[P];\n\te: [\n[int] ]; }rec Q{}", at(1, 1, api.KProg,
		at(1, 1, api.KRec,
			at(1, 9, api.KField, at(1, 12, api.KBoolT)).text("a"),
			at(2, 1, api.KField, at(2, 5, api.KStrT)).text("b"),
			at(2, 11, api.KField, at(2, 13, api.KCompT)).text("c"),
			at(2, 18, api.KField, at(2, 20, api.KListT, recType(2, 21, "P"))).text("d"),
			at(3, 2, api.KField, at(3, 5, api.KListT, at(4, 1, api.KListT, at(4, 2, api.KIntT)))).text("e")).text("P"),
		at(4, 11, api.KRec).text("Q")))
}

func TestFunctionsByHand(t *testing.T) { // P6.1, P6.2
	program().wantTree(t, "fn f() {}", at(1, 1, api.KProg, at(1, 1, api.KFn, at(0, 0, api.KNoneT), at(1, 8, api.KBlock)).text("f")))
	program().wantTree(t, "fn f(): P {}", at(1, 1, api.KProg, at(1, 1, api.KFn, recType(1, 9, "P"), at(1, 11, api.KBlock)).text("f")))
	program().wantTree(t, "fn f(a: int) {}", at(1, 1, api.KProg,
		at(1, 1, api.KFn, at(1, 6, api.KParam, at(1, 9, api.KIntT)).text("a"), at(0, 0, api.KNoneT), at(1, 14, api.KBlock)).text("f").num(1)))
	program().wantTree(t, "# note\n fn\ng(a: int,\nb : [ P ],c:str) : [comp]\n{\n}", at(1, 1, api.KProg,
		at(2, 2, api.KFn,
			at(3, 3, api.KParam, at(3, 6, api.KIntT)).text("a"),
			at(4, 1, api.KParam, at(4, 5, api.KListT, recType(4, 7, "P"))).text("b"),
			at(4, 11, api.KParam, at(4, 13, api.KStrT)).text("c"),
			at(4, 20, api.KListT, at(4, 21, api.KCompT)), at(5, 1, api.KBlock)).text("g").num(3)))
}

func TestStatementsByHand(t *testing.T) { // P6.1, P6.2
	block := func(line, col int, kids ...branch) branch { return at(line, col, api.KBlock, kids...) }
	program().wantTree(t, inMain("var a: [int] = b;", "if a { } else {", "return; }", "if a { return a; }", "while a {", " print a; }", "a = b;", "(a)[0] = b;", "(a).b = c;", " ( a ) = b ;", "f();", "( f() );"), mainOf(
		at(2, 1, api.KVar, at(2, 8, api.KListT, at(2, 9, api.KIntT)), name(2, 16, "b")).text("a"),
		at(3, 1, api.KIf, name(3, 4, "a"), block(3, 6), block(3, 15, at(4, 1, api.KReturn))),
		at(5, 1, api.KIf, name(5, 4, "a"), block(5, 6, at(5, 8, api.KReturn, name(5, 15, "a")))),
		at(6, 1, api.KWhile, name(6, 7, "a"), block(6, 9, at(7, 2, api.KPrint, name(7, 8, "a")))),
		at(8, 1, api.KSet, name(8, 1, "a"), name(8, 5, "b")),
		at(9, 1, api.KSet, at(9, 4, api.KIndex, name(9, 2, "a"), whole(9, 5, 0)), name(9, 10, "b")),
		at(10, 1, api.KSet, at(10, 4, api.KDot, name(10, 2, "a")).text("b"), name(10, 9, "c")),
		at(11, 2, api.KSet, name(11, 4, "a"), name(11, 10, "b")),
		at(12, 1, api.KDo, at(12, 1, api.KCall).text("f")),
		at(13, 1, api.KDo, at(13, 3, api.KCall).text("f"))))
}

func TestAtomsByHand(t *testing.T) { // P6.1, P6.2
	for s, want := range map[string]branch{
		"0": whole(1, 1, 0), "9223372036854775807": whole(1, 1, 9223372036854775807), "007": whole(1, 1, 7),
		"0i": at(1, 1, api.KComp), "8388607i": at(1, 1, api.KComp).num(8388607),
		`""`: at(1, 1, api.KStr), `"a\n\x00(\""`: at(1, 1, api.KStr).text("a\n\x00(\""), `"nil"`: at(1, 1, api.KStr).text("nil"), `"-"`: at(1, 1, api.KStr).text("-"),
		"true": at(1, 1, api.KBool).num(1), "false": at(1, 1, api.KBool), "nil": at(1, 1, api.KNil),
		"a": name(1, 1, "a"), "_x9": name(1, 1, "_x9"), "text": name(1, 1, "text"), "\n\t(\n a )": name(3, 2, "a"),
		"f()": at(1, 1, api.KCall).text("f"), "f\n(\n)": at(1, 1, api.KCall).text("f"),
		" f(1)":            at(1, 2, api.KCall, whole(1, 4, 1)).text("f"),
		"f(1,\nb, \n\"\")": at(1, 1, api.KCall, whole(1, 3, 1), name(2, 1, "b"), at(3, 1, api.KStr)).text("f"),
		"make P()":         at(1, 1, api.KMake, recType(1, 6, "P")), "\nmake\nP\n(\n)": at(2, 1, api.KMake, recType(3, 1, "P")),
		"make [int](3)":        at(1, 1, api.KMake, at(1, 6, api.KListT, at(1, 7, api.KIntT)), whole(1, 12, 3)),
		"make[[\nP]]\n(a + 1)": at(1, 1, api.KMake, at(1, 5, api.KListT, at(1, 6, api.KListT, recType(2, 1, "P"))), pair(3, 4, api.OpAdd, name(3, 2, "a"), whole(3, 6, 1))),
	} {
		expression().wantTree(t, s, want)
	}
}

func TestMakeAsksForARecordOrAList(t *testing.T) { // P6.1
	for s, col := range map[string]int{"make int(3)": 6, "make a()": 6, "make (P)()": 6, "make P": 7, "make P[0]": 7, "make P(1)": 8, "make [int]": 11, "make [int]()": 12, "make []()": 7, "make [int](1,2)": 13, "make [3](1)": 7, "make": 5} {
		expression().wantFault(t, s, api.ErrParse, 1, col)
	}
}

func TestPostfixesByHand(t *testing.T) { // P6.1, P6.2
	index := func(line, col int, a, b branch) branch { return at(line, col, api.KIndex, a, b) }
	dot := func(line, col int, s string, a branch) branch { return at(line, col, api.KDot, a).text(s) }
	call := func(line, col int) branch { return at(line, col, api.KCall).text("f") }
	zero := func(line, col int) branch { return whole(line, col, 0) }
	for s, want := range map[string]branch{
		"a[0]": index(1, 2, name(1, 1, "a"), zero(1, 3)), "a.b": dot(1, 2, "b", name(1, 1, "a")),
		"f()[0]": index(1, 4, call(1, 1), zero(1, 5)), "f().b": dot(1, 4, "b", call(1, 1)),
		"a[0]\n[1] .b": dot(2, 5, "b", index(2, 1, index(1, 2, name(1, 1, "a"), zero(1, 3)), whole(2, 2, 1))),
		"a.b\n.\nc[0]": index(3, 2, dot(2, 1, "c", dot(1, 2, "b", name(1, 1, "a"))), zero(3, 3)),
		`"x"[0]`:       index(1, 4, at(1, 1, api.KStr).text("x"), zero(1, 5)), `"x".b`: dot(1, 4, "b", at(1, 1, api.KStr).text("x")),
		"3[0]": index(1, 2, whole(1, 1, 3), zero(1, 3)), "3.b": dot(1, 2, "b", whole(1, 1, 3)), "3i.b": dot(1, 3, "b", at(1, 1, api.KComp).num(3)),
		"nil[0]": index(1, 4, at(1, 1, api.KNil), zero(1, 5)), "true.b": dot(1, 5, "b", at(1, 1, api.KBool).num(1)),
		"(a+b)[0]":    index(1, 6, pair(1, 3, api.OpAdd, name(1, 2, "a"), name(1, 4, "b")), zero(1, 7)),
		"(-a).b":      dot(1, 5, "b", at(1, 2, api.KUn, name(1, 3, "a")).num(api.OpNeg)),
		"make P()[0]": index(1, 9, at(1, 1, api.KMake, recType(1, 6, "P")), zero(1, 10)),
		"a[b[0]]":     index(1, 2, name(1, 1, "a"), index(1, 4, name(1, 3, "b"), zero(1, 5))),
		"-a[0]":       at(1, 1, api.KUn, index(1, 3, name(1, 2, "a"), zero(1, 4))).num(api.OpNeg),
		"!a.b":        at(1, 1, api.KUn, dot(1, 3, "b", name(1, 2, "a"))).num(api.OpNot),
	} {
		expression().wantTree(t, s, want)
	}
	for s, col := range map[string]int{"a[]": 3, "a[0,1]": 4, "a[0": 4, "a.": 3, "a.B": 3, "a.int": 3, "a.3": 3, "a..b": 3, ".b": 1, "a.(b)": 3, "[0]": 1} {
		expression().wantFault(t, s, api.ErrParse, 1, col)
	}
}

func TestCalls(t *testing.T) { // P6.1
	for s, col := range map[string]int{"f(": 3, "f(1": 4, "f(,)": 3, "f(1,)": 5, "f(,1)": 3, "f(1,,2)": 5, "f(1 2)": 5, "f(1;2)": 4, "f)": 2,
		"f()()": 4, "f(1)(2)": 5, "(f)()": 4, "a.f()": 4, "a[0]()": 5, "3()": 2, "F()": 1, "int(3)": 1, "str(3)": 1, `"f"()`: 4, "f{}": 2} {
		expression().wantFault(t, s, api.ErrParse, 1, col)
	}
}

func TestUnarySigns(t *testing.T) { // P6.1, P6.2
	un := func(col int, op int64, a branch) branch { return at(1, col, api.KUn, a).num(op) }
	neg, not := int64(api.OpNeg), int64(api.OpNot)
	for s, want := range map[string]branch{
		"-a": un(1, neg, name(1, 2, "a")), "!a": un(1, not, name(1, 2, "a")),
		"--a": un(1, neg, un(2, neg, name(1, 3, "a"))), "!!a": un(1, not, un(2, not, name(1, 3, "a"))),
		"-!a": un(1, neg, un(2, not, name(1, 3, "a"))), "! -a": un(1, not, un(3, neg, name(1, 4, "a"))),
		"-1":      un(1, neg, whole(1, 2, 1)),
		"-a*b":    pair(1, 3, api.OpMul, un(1, neg, name(1, 2, "a")), name(1, 4, "b")),
		"a*-b":    pair(1, 2, api.OpMul, name(1, 1, "a"), un(3, neg, name(1, 4, "b"))),
		"a--b":    pair(1, 2, api.OpSub, name(1, 1, "a"), un(3, neg, name(1, 4, "b"))),
		"a---b":   pair(1, 2, api.OpSub, name(1, 1, "a"), un(3, neg, un(4, neg, name(1, 5, "b")))),
		"!a==b":   pair(1, 3, api.OpEq, un(1, not, name(1, 2, "a")), name(1, 5, "b")),
		"!a!= !b": pair(1, 3, api.OpNe, un(1, not, name(1, 2, "a")), un(6, not, name(1, 7, "b"))),
		"-(a+b)":  un(1, neg, pair(1, 4, api.OpAdd, name(1, 3, "a"), name(1, 5, "b"))),
	} {
		expression().wantTree(t, s, want)
	}
	for s, col := range map[string]int{"-": 2, "!": 2, "- -": 4, "a!": 2, "a!b": 2, "a-": 3, "-)": 2, "+a": 1, "a+*b": 3, "*a": 1} {
		expression().wantFault(t, s, api.ErrParse, 1, col)
	}
}

func levelOf(sign string) int {
	return slices.IndexFunc(levels(), func(l []string) bool { return slices.Contains(l, sign) })
}

func TestTwoSigns(t *testing.T) { // P6.1
	for x, opX := range operations() {
		for y, opY := range operations() {
			a, b, c := name(0, 0, "a"), name(0, 0, "b"), name(0, 0, "c")
			left := pair(0, 0, opY, pair(0, 0, opX, a, b), c).row()
			right := pair(0, 0, opX, a, pair(0, 0, opY, b, c)).row()
			expression().wantBare(t, "(a "+x+" b) "+y+" c", left)
			expression().wantBare(t, "a "+x+" (b "+y+" c)", right)
			bare := "a " + x + " b " + y + " c"
			switch low := levelOf(x); {
			case low == levelOf(y) && (low == 2 || low == 3):
				expression().wantFault(t, bare, api.ErrParse, 1, 6+len(x))
			case low >= levelOf(y):
				expression().wantBare(t, bare, left)
			default:
				expression().wantBare(t, bare, right)
			}
		}
	}
}

func TestThreeSigns(t *testing.T) { // P6.1, P6.2
	d := newSaid()
	for x := range operations() {
		for y := range operations() {
			for z := range operations() {
				expression().wantSaid(t, d, "a "+x+" b "+y+" c "+z+" d")
			}
		}
	}
}

func TestSignsFromTheLeft(t *testing.T) { // P6.1, P6.2
	a, b, c, d := name(1, 1, "a"), name(1, 3, "b"), name(1, 5, "c"), name(1, 7, "d")
	expression().wantTree(t, "a-b+c-d", pair(1, 6, api.OpSub, pair(1, 4, api.OpAdd, pair(1, 2, api.OpSub, a, b), c), d))
	expression().wantTree(t, "a/b*c%d", pair(1, 6, api.OpRem, pair(1, 4, api.OpMul, pair(1, 2, api.OpDiv, a, b), c), d))
	expression().wantTree(t, "a-b*c-d", pair(1, 6, api.OpSub, pair(1, 2, api.OpSub, a, pair(1, 4, api.OpMul, b, c)), d))
	expression().wantTree(t, "a<b==c<d", pair(1, 4, api.OpEq, pair(1, 2, api.OpLt, a, b), pair(1, 7, api.OpLt, name(1, 6, "c"), name(1, 8, "d"))))
	for _, level := range levels() {
		for _, sign := range level {
			want := name(0, 0, "a")
			for range 5 {
				want = pair(0, 0, operations()[sign], want, name(0, 0, "a"))
			}
			if s := "a" + strings.Repeat(sign+"a", 5); sign == "==" || sign == "!=" || sign[0] == '<' || sign[0] == '>' {
				expression().wantFault(t, s, api.ErrParse, 1, 3+len(sign))
			} else {
				expression().wantBare(t, s, want.row())
			}
		}
	}
}

func TestSignsThatDoNotGoOn(t *testing.T) { // P6.1
	for s, col := range map[string]int{"a == b == c": 8, "a != b == c": 8, "a < b < c": 7, "a <= b > c": 8, "a < b == c < d >= e": 16, "a == b < c != d": 12, "(a == b) == c == d": 15, "a = b": 3, "a, b": 2, "a b": 3, "a : b": 3} {
		expression().wantFault(t, s, api.ErrParse, 1, col)
	}
	expression().wantBare(t, "a == (b == c)", pair(0, 0, api.OpEq, name(0, 0, "a"), pair(0, 0, api.OpEq, name(0, 0, "b"), name(0, 0, "c"))).row())
	expression().wantBare(t, "a == b && c == d", pair(0, 0, api.OpAnd, pair(0, 0, api.OpEq, name(0, 0, "a"), name(0, 0, "b")), pair(0, 0, api.OpEq, name(0, 0, "c"), name(0, 0, "d"))).row())
}

func TestSetAndDo(t *testing.T) { // P6.1
	for _, s := range append(expressions(), "(a)", "((a[0]))", "(a.b)", "(f())", "-f()", "(a) + b", "(f)", "f() + f()", "f()[0].a", "a.b.c") {
		tokens, _ := lex.Tokens(s)
		first := saidExpr(tokens[:len(tokens)-1])
		set, do := inMain(s+" = x;"), inMain(s+";")
		switch first.node.Kind {
		case api.KName, api.KIndex, api.KDot:
			program().wantBare(t, set, mainOf(at(0, 0, api.KSet, first, name(0, 0, "x"))).row())
		default:
			program().wantFault(t, set, api.ErrParse, 2, len(s)+2)
		}
		switch first.node.Kind {
		case api.KCall:
			program().wantBare(t, do, mainOf(at(0, 0, api.KDo, first)).row())
		default:
			program().wantFault(t, do, api.ErrParse, 2, len(s)+1)
		}
	}
}

func TestWrongStatements(t *testing.T) { // P6.1
	for s, col := range map[string]int{
		"a = b = c;": 7, "a == b;": 7, "a == b = c;": 8, "f() = 3;": 5, "f(), g();": 4, "a;": 2, "a = ;": 5, "= a;": 1, ";": 1, "{ }": 1, "a b;": 3, "a: int = 3;": 2, "a + ;": 5, "int = 3;": 1, "P = 3;": 1,
		"else { }": 1, "fn g() { }": 1, "rec P { }": 1, "if a;": 5, "if { }": 4, "if a { } else if b { }": 15, "if (a) b = 1;": 8, "while { }": 7, "while a = b { }": 9, "print;": 6, "print a, b;": 8, "return a b;": 10, "return = a;": 8,
		"var a = 3;": 7, "var a: int;": 11, "var A: int = 3;": 5, "var a: int == 3;": 12, "var a: a = 3;": 8, "var (a): int = 3;": 5,
	} {
		program().wantFault(t, inMain(s), api.ErrParse, 2, col)
	}
	for _, s := range []string{"a", "f()", "return", "return a", "print a", "a = b", "a[0]", "a.b", "if a", "while a", "var a", "var a: int = 3", "if a { } else"} {
		program().wantFault(t, inMain(s), api.ErrParse, 3, 1)
		program().wantFault(t, "fn main() {\n"+s, api.ErrParse, 2, len(s)+1)
	}
}

func TestCutTexts(t *testing.T) { // P6.1
	d := newSaid()
	for _, s := range append(rows(), inStatements()...) {
		l := strings.Fields(s)
		for i := range l {
			program().wantSaid(t, d, strings.Join(l[:i], " "))
			program().wantSaid(t, d, strings.Join(l[:i], "\n")+"\n # note")
		}
	}
	for _, s := range expressions() {
		l := strings.Fields(s)
		for i := range l {
			expression().wantSaid(t, d, strings.Join(l[:i], " "))
		}
	}
}

func TestCutTextsByHand(t *testing.T) { // P6.1
	s := "rec P { a : int ; } fn f ( a : int , b : P ) : [ str ] { var a : int = 1 ; if a { } else { } while a { } return a ; print a ; a = b ; f ( a ) ; }"
	l := strings.Fields(s)
	for i := 1; i < len(l); i++ {
		front := strings.Join(l[:i], " ")
		if strings.HasSuffix(front, "; }") && i < 9 {
			program().wantBare(t, front, at(1, 1, api.KProg, at(0, 0, api.KRec, at(0, 0, api.KField, at(0, 0, api.KIntT)).text("a")).text("P")).row())
			continue
		}
		program().wantFault(t, front, api.ErrParse, 1, len(front)+1)
		program().wantFault(t, front+"\n\n  # note\n ", api.ErrParse, 4, 2)
	}
}

func TestOtherTokens(t *testing.T) { // P6.1, P6.2
	d := newSaid()
	for _, s := range rows() {
		program().wantChanged(t, d, strings.Fields(s))
	}
	for _, s := range expressions() {
		expression().wantChanged(t, d, strings.Fields(s))
	}
}

// wantChanged asks of a text with each token in the place of each of its own, and ahead of each of its own.
func (f face) wantChanged(t *testing.T, d *said, l []string) {
	t.Helper()
	c := d.newChart(f.start)
	for i := range len(l) + 1 {
		front := strings.Join(append(slices.Clone(l[:i]), ""), " ")
		ahead, behind := " "+strings.Join(l[i:], " "), " "+strings.Join(l[min(i+1, len(l)):], " ")
		for _, token := range allTokens() {
			if c.goesOn(symbolOf(token)) {
				f.wantSaid(t, d, front+token+ahead)
				f.wantSaid(t, d, front+token+behind)
				continue
			}
			f.wantFault(t, front+token+ahead, api.ErrParse, 1, len(front)+1)
			f.wantFault(t, front+token+behind, api.ErrParse, 1, len(front)+1)
		}
		if i < len(l) {
			c.push(symbolOf(l[i]))
		}
	}
}

func symbolOf(token string) string {
	l, _ := lex.Tokens(token)
	return symbol(l[0])
}

func TestBehindAnExpression(t *testing.T) { // P6.1
	for _, s := range expressions() {
		for _, more := range []string{"a", "P", "3", "3i", `""`, "true", "nil", "make", "int", "var", "=", ")", "]", "}", "{", ",", ";", ":", "!"} {
			expression().wantFault(t, s+"\n "+more, api.ErrParse, 2, 2)
		}
		want, _ := Expr(s)
		expression().wantRow(t, s+"\n # note\n", want)
	}
	expression().wantFault(t, "a; b", api.ErrParse, 1, 2)
	expression().wantFault(t, "fn f() { }", api.ErrParse, 1, 1)
}

func TestBehindAProgram(t *testing.T) { // P6.1
	for _, token := range allTokens() {
		switch token {
		case "rec", "fn":
			program().wantFault(t, "fn f() { }\n"+token, api.ErrParse, 2, 1+len(token))
		default:
			program().wantFault(t, "fn f() { }\n"+token, api.ErrParse, 2, 1)
			program().wantFault(t, token, api.ErrParse, 1, 1)
		}
	}
}

// walk asks of all rows of these tokens that go on, up to so many, with each token behind them.
func (f face) walk(t *testing.T, c *chart, text string, tokens []string, room int) {
	for _, token := range tokens {
		l, fault := lex.Tokens(text + " " + token)
		if fault.Code != api.OK {
			t.Fatal(text, token, fault)
		}
		last, end := l[len(l)-2], l[len(l)-1]
		if !c.goesOn(symbol(last)) {
			f.wantFault(t, text+" "+token+" }", api.ErrParse, last.Line, last.Col)
			continue
		}
		c.push(symbol(last))
		if c.goesOn("END") {
			f.wantTree(t, text+" "+token, f.said(l[:len(l)-1]))
		} else {
			f.wantFault(t, text+" "+token, api.ErrParse, end.Line, end.Col)
		}
		if room > 1 {
			f.walk(t, c, text+" "+token, tokens, room-1)
		}
		c.pop()
	}
}

// walkFrom is walk from behind a text on.
func (f face) walkFrom(t *testing.T, text string, tokens []string, room int) {
	c := newSaid().newChart(f.start)
	l, _ := lex.Tokens(text)
	for _, token := range l[:len(l)-1] {
		c.push(symbol(token))
	}
	f.walk(t, c, text, tokens, room)
}

func TestAllShortTexts(t *testing.T) { // P6.1, P6.2, P0.1
	all := allTokens()
	expression().walkFrom(t, "", all, 3)
	expression().walkFrom(t, "", []string{"a", "(", ")", "[", "]", ".", ",", "-", "*", "==", "&&"}, 6)
	program().walkFrom(t, "", all, 9)
	program().walkFrom(t, "fn f ( ) {", all, 3)
	program().walkFrom(t, "fn f ( ) {", []string{"a", "(", ")", "[", "]", ".", "=", ";", "-", "}"}, 7)
	program().walkFrom(t, "fn f ( ) { if a {", []string{"if", "a", "{", "}", "else", "while", "return", ";"}, 8)
	program().walkFrom(t, "fn f ( ) { var", []string{"a", ":", "int", "Rec", "[", "]", "=", "make", "(", ")", ";", "}"}, 10)
}

func TestGrownTexts(t *testing.T) { // P6.1, P6.2
	d, by := newSaid(), &dice{0x2545f4914f6cdd1d}
	for i := range 1500 {
		expression().wantSaid(t, d, spelt(by, d.grown(by, "expression", i%60)))
		program().wantSaid(t, d, spelt(by, d.grown(by, "decls", i%150)))
		program().wantSaid(t, d, "fn f() {"+spelt(by, d.grown(by, "statements", i%100))+"}")
	}
}

// spelt is a text of tokens that are told as the grammar writes them, over several lines.
func spelt(by *dice, l []string) string {
	kinds := map[string][]string{
		"NAME": {"a", "b2", "_", "iff", "len"}, "GREAT": {"P", "Int", "Q_1"}, "INT": {"0", "12", "9223372036854775807"}, "COMP": {"0i", "8388607i"},
		"STR": {`""`, `"a b"`, `";"`, `"\n\x00\""`, `"rec"`}}
	gaps := []string{" ", " ", " ", "\n", "\t", "  ", "\r\n", " # note ; }\n"}
	var text strings.Builder
	for _, s := range l {
		if may := kinds[s]; may != nil {
			s = may[by.below(len(may))]
		}
		text.WriteString(s + gaps[by.below(len(gaps))])
	}
	return text.String()
}

func TestShakenTexts(t *testing.T) { // P6.1, P0.1
	d, by := newSaid(), &dice{0x9e3779b97f4a7c15}
	for i := range 3000 {
		f, start, front := program(), "decls", ""
		switch i % 3 {
		case 0:
			f, start = expression(), "expression"
		case 1:
			start, front = "statements", "fn f() {"
		}
		l := d.grown(by, start, i%70)
		for range 1 + by.below(3) {
			at := by.below(len(l) + 1)
			switch token := allTokens()[by.below(len(allTokens()))]; by.below(3) {
			case 0:
				l = slices.Insert(l, at, token)
			case 1:
				l = slices.Delete(l, min(at, max(0, len(l)-1)), min(at+1, len(l)))
			default:
				if at < len(l) {
					l[at] = token
				}
			}
		}
		f.wantSaid(t, d, front+spelt(by, l)+strings.Repeat("}", len(front)/8))
	}
}

func TestTokensWithAFault(t *testing.T) { // P6.1, P0.2
	for _, f := range []face{program(), expression()} {
		for s, want := range map[string]api.Fault{
			"$": {Code: api.ErrToken, Line: 1, Col: 1}, ") $": {Code: api.ErrToken, Line: 1, Col: 3}, "}\n 12a": {Code: api.ErrToken, Line: 2, Col: 2},
			"= = =\n\"": {Code: api.ErrToken, Line: 2, Col: 1}, `"a\q"`: {Code: api.ErrToken, Line: 1, Col: 1}, "a & b": {Code: api.ErrToken, Line: 1, Col: 3},
			"9223372036854775808": {Code: api.ErrOver, Line: 1, Col: 1}, "] 8388608i": {Code: api.ErrOver, Line: 1, Col: 3},
			strings.Repeat("(", 50) + " $": {Code: api.ErrToken, Line: 1, Col: 52}, "\x00": {Code: api.ErrToken, Line: 1, Col: 1}, "a \xff": {Code: api.ErrToken, Line: 1, Col: 3},
		} {
			f.wantFault(t, s, want.Code, want.Line, want.Col)
		}
	}
}

func TestBytes(t *testing.T) { // P6.1, P0.1
	d := newSaid()
	for x := range 256 {
		for y := range 256 {
			s := string([]byte{byte(x), byte(y)})
			program().wantSaid(t, d, s)
			expression().wantSaid(t, d, s)
		}
		program().wantSaid(t, d, "fn f() { a = "+string([]byte{byte(x)})+"b; }")
		expression().wantSaid(t, d, "a"+string([]byte{byte(x)})+"b")
	}
}

// nests are what may stand in one another in an expression: what opens one bracket or unary sign, or two, and what closes them.
func nests() [][2]string {
	return [][2]string{{"(", ")"}, {"a[", "]"}, {"f(", ")"}, {"f(b,", ",c)"}, {"-", ""}, {"!", ""}, {"make[int](", ")"}, {"a+(", ")"}, {"a.b[", "].c"}, {"(", ")[0]"}, {"-(", ")"}, {"a*!f(b,", ")+1"}}
}

func TestDeepExpressions(t *testing.T) { // P6.1
	for _, n := range nests() {
		deep := 1
		if strings.ContainsAny(n[0], "-!") && strings.Contains(n[0], "(") {
			deep = 2
		}
		for _, count := range []int{38 / deep, 39 / deep, 40 / deep} {
			s := strings.Repeat(n[0], count) + "a" + strings.Repeat(n[1], count)
			if _, fault := Expr(s); fault != (api.Fault{}) {
				t.Errorf("Expr(%q): %v", s, fault)
			}
		}
	}
	expression().wantFault(t, strings.Repeat("(", 41)+"a"+strings.Repeat(")", 41), api.ErrDeep, 1, 41)
	expression().wantFault(t, strings.Repeat("a[", 41)+"a"+strings.Repeat("]", 41), api.ErrDeep, 1, 82)
	expression().wantFault(t, strings.Repeat("f(", 41)+"a"+strings.Repeat(")", 41), api.ErrDeep, 1, 82)
	expression().wantFault(t, strings.Repeat("-", 41)+"a", api.ErrDeep, 1, 41)
	expression().wantFault(t, strings.Repeat("!", 41)+"a", api.ErrDeep, 1, 41)
	expression().wantFault(t, strings.Repeat("make[int](", 41)+"a"+strings.Repeat(")", 41), api.ErrDeep, 1, 405)
	expression().wantFault(t, "make "+strings.Repeat("[", 41)+"int"+strings.Repeat("]", 41)+"(1)", api.ErrDeep, 1, 46)
	expression().wantBare(t, "make "+strings.Repeat("[", 40)+"int"+strings.Repeat("]", 40)+"(1)", at(0, 0, api.KMake, lists(40), whole(0, 0, 1)).row())
	signed := name(0, 0, "a")
	for range 40 {
		signed = at(0, 0, api.KUn, signed).num(api.OpNeg)
	}
	expression().wantBare(t, strings.Repeat("-", 40)+"a", signed.row())
	expression().wantBare(t, strings.Repeat("(", 40)+"a"+strings.Repeat(")", 40), name(0, 0, "a").row())
}

// lists is the type of lists in so many lists.
func lists(count int) branch {
	b := at(0, 0, api.KIntT)
	for range count {
		b = at(0, 0, api.KListT, b)
	}
	return b
}

func TestDeepPrograms(t *testing.T) { // P6.1
	blocks := func(front string, count int) string {
		return "fn f() {" + strings.Repeat(front+" {", count-1) + strings.Repeat("}", count)
	}
	for _, front := range []string{"if a", "while a", "if a { } else", "if -a", "while a[0]"} {
		for _, count := range []int{1, 39, 40} {
			if _, fault := Parse(blocks(front, count)); fault != (api.Fault{}) {
				t.Errorf("Parse(%q): %v", blocks(front, count), fault)
			}
		}
		// What stands ahead of the last block is as deep: its sign, its bracket, the block ahead of an else.
		last := strings.IndexAny(front+" {", "-[{")
		program().wantFault(t, blocks(front, 41), api.ErrDeep, 1, 8+39*len(front+" {")+last+1)
	}
	typed := func(count int) string { return strings.Repeat("[", count) + "int" + strings.Repeat("]", count) }
	for _, front := range []string{"rec P { a: ", "fn f(a: "} {
		behind := map[byte]string{'r': "; }", 'f': ") { }"}[front[0]]
		for _, count := range []int{38, 39} {
			if _, fault := Parse(front + typed(count) + behind); fault != (api.Fault{}) {
				t.Errorf("Parse(%q): %v", front+typed(count)+behind, fault)
			}
		}
		program().wantFault(t, front+typed(40)+behind, api.ErrDeep, 1, len(front)+40)
	}
	if _, fault := Parse("fn f(): " + typed(40) + " { }"); fault != (api.Fault{}) {
		t.Error("a result's type that is 40 deep:", fault)
	}
	program().wantFault(t, "fn f(): "+typed(41)+" { }", api.ErrDeep, 1, 49)
	program().wantFault(t, "fn f() { return "+strings.Repeat("-", 40)+"a; }", api.ErrDeep, 1, 56)
	program().wantFault(t, "fn f() { f("+strings.Repeat("-", 39)+"a); }", api.ErrDeep, 1, 50)
	program().wantFault(t, "fn f() { a["+strings.Repeat("(", 39)+"a] = b; }", api.ErrDeep, 1, 50)
}

func TestDeepAndShallowAgain(t *testing.T) { // P6.1
	shut := strings.Repeat("(", 40) + "a" + strings.Repeat(")", 40)
	signs := strings.Repeat("-", 40) + "a"
	for _, s := range []string{
		shut + "+" + shut, signs + "-" + signs, signs + "*" + shut, shut + "[" + strings.Repeat("-", 39) + "a]", shut + ".b[0].c", signs + ".b.c",
		"f(" + strings.Repeat("-", 39) + "a, " + strings.Repeat("!", 39) + "b)", signs + "==" + signs, strings.Repeat("-", 39) + "f(a)[0]", strings.Repeat("-", 38) + "f((a))[(0)].b",
	} {
		if _, fault := Expr(s); fault != (api.Fault{}) {
			t.Errorf("Expr(%q): %v", s, fault)
		}
	}
	// Its operand goes on as far as its brackets do.
	expression().wantFault(t, signs+"[0]", api.ErrDeep, 1, 42)
	expression().wantFault(t, strings.Repeat("-", 40)+"f()", api.ErrDeep, 1, 42)
	expression().wantFault(t, strings.Repeat("-", 40)+"make P()", api.ErrDeep, 1, 47)
	expression().wantFault(t, strings.Repeat("-", 40)+"a.b[0]", api.ErrDeep, 1, 44)
	expression().wantFault(t, strings.Repeat("-", 39)+"(a)[(0)]", api.ErrDeep, 1, 44)
	expression().wantFault(t, strings.Repeat("-", 40)+"(a)", api.ErrDeep, 1, 41)
	if l, fault := Parse("fn f() { " + strings.Repeat("if a { ", 39) + "print -b; " + strings.Repeat("} ", 39) + "}"); fault.Code != api.ErrDeep || len(l) != 0 {
		t.Error("a sign in 40 blocks:", fault)
	}
	if _, fault := Parse("fn f() { " + strings.Repeat("if -a { ", 38) + "if -a { } " + strings.Repeat("} ", 38) + "}"); fault != (api.Fault{}) {
		t.Error("a block doesn't belong to the sign ahead of it:", fault)
	}
}

func TestMixedDepths(t *testing.T) { // P6.1
	d, by := newSaid(), &dice{0xd1342543de82ef95}
	opening := [][2]string{{"( ", ") "}, {"a [ ", "] "}, {"f ( ", ") "}, {"- ", ""}, {"! ", ""}, {"f ( a , ", ", - b ) "}, {"make [ int ] ( ", ") "}, {"a * - ", "+ ( b ) "}, {"- ( ", ") [ 0 ] "}, {"( ", ") . b "}}
	for i := range 600 {
		front, back := "", ""
		for range 30 + by.below(12) {
			n := opening[by.below(len(opening))]
			front, back = front+n[0], n[1]+back
		}
		middle := []string{"a ", "f ( ) ", "- a ", "( a ) ", "a [ 0 ] ", ") ", "{ ", "] ", "! ", ""}[i%10]
		expression().wantSaid(t, d, front+middle+back)
		program().wantSaid(t, d, "fn f ( ) { if a { print "+front+middle+back+"; } }")
	}
}

func TestBothFaultsAtOneToken(t *testing.T) { // P6.1, P0.2
	opened := strings.Repeat("(", 40)
	for _, s := range []string{"{", "[", "a(b)(", "a{", "a.(", "a!", "3(", "make(", "make {", "make P[", "make P{", "nil("} {
		col := 40 + len(s)
		if s == "a(b)(" {
			// The call's own bracket is deep, and goes on.
			expression().wantFault(t, opened+s, api.ErrDeep, 1, 42)
			continue
		}
		expression().wantFault(t, opened+s, api.ErrParse, 1, col)
	}
	for s, col := range map[string]int{"(": 41, "-": 41, "!": 41, "a(": 42, "a[": 42, "a-(": 43, "a--": 43, "make P(": 47, "make [": 46, "a-!": 43, "f(": 42} {
		expression().wantFault(t, opened+s, api.ErrDeep, 1, col)
		expression().wantFault(t, strings.Repeat("f(", 40)+s, api.ErrDeep, 1, col+40)
	}
	blocks := "fn f() {" + strings.Repeat("if a {", 39)
	program().wantFault(t, blocks+"{", api.ErrParse, 1, len(blocks)+1)
	program().wantFault(t, blocks+"[", api.ErrParse, 1, len(blocks)+1)
	program().wantFault(t, blocks+"if a (", api.ErrDeep, 1, len(blocks)+6)
	program().wantFault(t, blocks+"if 3 (", api.ErrParse, 1, len(blocks)+6)
	program().wantFault(t, blocks+"if a {", api.ErrDeep, 1, len(blocks)+6)
	program().wantFault(t, blocks+"else {", api.ErrParse, 1, len(blocks)+1)
	program().wantFault(t, blocks+"(", api.ErrDeep, 1, len(blocks)+1)
	program().wantFault(t, blocks+"-", api.ErrDeep, 1, len(blocks)+1)
	program().wantFault(t, blocks+"var a: [", api.ErrDeep, 1, len(blocks)+8)
	program().wantFault(t, blocks+"var a: (", api.ErrParse, 1, len(blocks)+8)
	// Of two tokens the first one is told, whichever fault it has.
	expression().wantFault(t, opened+"( ]", api.ErrDeep, 1, 41)
	expression().wantFault(t, opened+"] (", api.ErrParse, 1, 41)
}

// standsAt tells whether a node of this kind may be at the place of such a token.
func standsAt(n api.Node, token string) bool {
	switch n.Kind {
	case api.KSet, api.KDo:
		return token != "=" && token != ";" && token != "}"
	case api.KBin:
		return operations()[token] == n.Num
	case api.KUn:
		return token == "-" && n.Num == api.OpNeg || token == "!" && n.Num == api.OpNot
	case api.KBool:
		return token == "true" && n.Num == 1 || token == "false" && n.Num == 0
	}
	return token == map[uint8]string{
		api.KRec: "rec", api.KField: "NAME", api.KFn: "fn", api.KParam: "NAME", api.KBlock: "{", api.KVar: "var", api.KIf: "if", api.KWhile: "while", api.KReturn: "return", api.KPrint: "print",
		api.KIntT: "int", api.KBoolT: "bool", api.KStrT: "str", api.KCompT: "comp", api.KRecT: "GREAT", api.KListT: "[", api.KInt: "INT", api.KComp: "COMP", api.KStr: "STR", api.KNil: "nil",
		api.KName: "NAME", api.KCall: "NAME", api.KIndex: "[", api.KDot: ".", api.KMake: "make"}[n.Kind]
}

func wantPlaces(t *testing.T, s string, l []api.Node) {
	t.Helper()
	tokens, _ := lex.Tokens(s)
	places := map[[2]int]string{}
	for _, token := range tokens {
		places[[2]int{token.Line, token.Col}] = symbol(token)
	}
	for i, n := range l {
		switch place := [2]int{n.Line, n.Col}; n.Kind {
		case api.KProg:
			if i != 0 || place != [2]int{1, 1} {
				t.Errorf("of %q: node %d is %v, want it at 1 1", s, i, n)
			}
		case api.KNoneT:
			if place != [2]int{} {
				t.Errorf("of %q: node %d is %v, want it at 0 0", s, i, n)
			}
		default:
			if !standsAt(n, places[place]) {
				t.Errorf("of %q: node %d is %v, and at its place is %q", s, i, n, places[place])
			}
		}
	}
}

func TestTreesAreThoseOfPrograms(t *testing.T) { // P6.2
	d, by := newSaid(), &dice{0xbf58476d1ce4e5b9}
	texts := append(rows(), inStatements()...)
	for i := range 1000 {
		texts = append(texts, spelt(by, d.grown(by, "decls", i%200)), "fn f() {"+spelt(by, d.grown(by, "statements", i%150))+"}")
	}
	for _, s := range texts {
		l, fault := Parse(s)
		if fault != (api.Fault{}) || !tree.May(l) {
			t.Errorf("Parse(%q): %s, %v, want a program's tree", s, shown(l), fault)
		}
		wantPlaces(t, s, l)
	}
	for i := range 1000 {
		s := spelt(by, d.grown(by, "expression", i%100))
		l, fault := Expr(s)
		if fault != (api.Fault{}) || !tree.May(inProgram(l)) {
			t.Errorf("Expr(%q): %s, %v, want an expression's tree", s, shown(l), fault)
		}
		wantPlaces(t, s, l)
		program := "fn f() {\nprint\n" + s + "; }"
		inIt, _ := Parse(program)
		if len(inIt) < 5 || !tree.Same(inIt[5:], l) {
			t.Errorf("Parse(%q): %s, want %s in it", program, shown(inIt), shown(l))
		}
	}
}

// bracketed is the text of an expression's row with so many more brackets about each expression in it.
func bracketed(l []api.Node, more int) string {
	var kids []string
	for _, at := range tree.Kids(l, 0) {
		if kid := l[at : at+1+l[at].Size]; kid[0].Kind >= api.KInt {
			kids = append(kids, bracketed(kid, more))
		} else {
			kids = append(kids, typeText(kid))
		}
	}
	return strings.Repeat("(", more) + bareText(l[0], kids) + strings.Repeat(")", more)
}

func typeText(l []api.Node) string {
	switch l[0].Kind {
	case api.KRecT:
		return l[0].Text
	case api.KListT:
		return "[" + typeText(l[1:]) + "]"
	}
	return map[uint8]string{api.KIntT: "int", api.KBoolT: "bool", api.KStrT: "str", api.KCompT: "comp"}[l[0].Kind]
}

// bareText is the text of an expression whose operands have their brackets.
func bareText(n api.Node, kids []string) string {
	switch n.Kind {
	case api.KInt:
		return fmt.Sprint(n.Num)
	case api.KComp:
		return fmt.Sprint(n.Num) + "i"
	case api.KStr:
		return fmt.Sprintf("%q", n.Text)
	case api.KBool:
		return []string{"false", "true"}[n.Num]
	case api.KNil:
		return "nil"
	case api.KCall:
		return n.Text + "(" + strings.Join(kids, ",") + ")"
	case api.KIndex:
		return kids[0] + "[" + kids[1] + "]"
	case api.KDot:
		return kids[0] + "." + n.Text
	case api.KUn:
		return map[int64]string{api.OpNeg: "-", api.OpNot: "!"}[n.Num] + kids[0]
	case api.KBin:
		for sign, op := range operations() {
			if op == n.Num {
				return kids[0] + sign + kids[1]
			}
		}
	case api.KMake:
		return "make " + kids[0] + "(" + strings.Join(kids[1:], "") + ")"
	}
	return n.Text
}

func TestMoreBrackets(t *testing.T) { // P6.3
	d, by := newSaid(), &dice{0x94d049bb133111eb}
	texts := expressions()
	for i := range 500 {
		texts = append(texts, spelt(by, d.grown(by, "expression", i%40)))
	}
	for _, s := range texts {
		l, _ := Expr(s)
		for more := 1; more <= 5; more++ {
			expression().wantSame(t, bracketed(l, more), l)
			expression().wantSame(t, strings.Repeat("(", more)+s+strings.Repeat(")", more), l)
		}
		program().wantSame(t, "fn f(){print "+bracketed(l, 2)+";}", inProgram(l))
		program().wantSame(t, "fn f(){print("+s+");}", inProgram(l))
	}
}

// wantSame asks for the same tree, unless the text is too deep.
func (f face) wantSame(t *testing.T, s string, want []api.Node) {
	t.Helper()
	if got, fault := f.call(s); fault.Code != api.ErrDeep && (fault != (api.Fault{}) || !tree.Same(got, want)) {
		t.Errorf("%s(%q): %s, %v, want %s", f.name, s, shown(got), fault, shown(want))
	}
}

func TestMoreBracketsInStatements(t *testing.T) { // P6.3
	want, _ := Parse(inMain("a = b;", "a[0] = b;", "a.b = c;", "f(a, b);", "if a { }", "while a { }", "return a;", "var a: int = b;"))
	for _, more := range []int{1, 2, 10, 19} {
		in := func(s string) string { return strings.Repeat("(", more) + s + strings.Repeat(")", more) }
		program().wantBare(t, inMain(in("a")+"="+in("b")+";", in(in("a")+"["+in("0")+"]")+"="+in("b")+";", in(in("a")+".b")+"="+in("c")+";",
			in("f("+in("a")+","+in("b")+")")+";", "if"+in("a")+"{ }", "while"+in("a")+"{ }", "return"+in("a")+";", "var a: int ="+in("b")+";"), want)
	}
}

func TestLongTexts(t *testing.T) { // P6.1, P0.1
	program().wantTree(t, strings.Repeat(" ", api.MaxText), at(1, 1, api.KProg))
	program().wantTree(t, "#"+strings.Repeat("x", api.MaxText-1), at(1, 1, api.KProg))
	expression().wantTree(t, "a"+strings.Repeat("\n", api.MaxText-1), name(1, 1, "a"))
	long := strings.Repeat("a", api.MaxText)
	expression().wantTree(t, long, name(1, 1, long))
	for _, f := range []face{program(), expression()} {
		for _, s := range []string{strings.Repeat(" ", api.MaxText+1), long + "a", strings.Repeat("(", api.MaxText+1), strings.Repeat("$", api.MaxText+1)} {
			f.wantFault(t, s, api.ErrLong, 0, 0)
		}
		f.wantFault(t, strings.Repeat("$", api.MaxText), api.ErrToken, 1, 1)
	}
	expression().wantFault(t, strings.Repeat("(", api.MaxText), api.ErrDeep, 1, 41)
	expression().wantFault(t, strings.Repeat("-", api.MaxText), api.ErrDeep, 1, 41)
	program().wantFault(t, strings.Repeat("(", api.MaxText), api.ErrParse, 1, 1)
}

func TestLongRows(t *testing.T) { // P6.1, P6.2, P0.1
	const count = api.MaxText/2 - 1
	var sums, dots, args []api.Node
	for i := range count {
		col := 2 * (count - i)
		sums = append(sums, api.Node{Kind: api.KBin, Line: 1, Col: col, Size: 2 * (count - i), Num: api.OpSub})
		dots = append(dots, api.Node{Kind: api.KDot, Line: 1, Col: col, Size: count - i, Text: "a"})
	}
	sums, dots = append(sums, name(1, 1, "a").node), append(dots, name(1, 1, "a").node)
	args = append(args, api.Node{Kind: api.KCall, Line: 1, Col: 1, Size: count, Text: "f"})
	for i := range count {
		sums = append(sums, name(1, 2*i+3, "a").node)
		args = append(args, name(1, 2*i+3, "a").node)
	}
	expression().wantRow(t, "a"+strings.Repeat("-a", count), sums)
	expression().wantRow(t, "a"+strings.Repeat(".a", count), dots)
	expression().wantRow(t, "f("+strings.Repeat("a,", count-1)+"a)", args)
	expression().wantFault(t, "a"+strings.Repeat("-a", count)+"-", api.ErrParse, 1, 2*count+3)
	calls := strings.Repeat("f();", 16000)
	l, fault := Parse("fn f(){" + calls + "}")
	if fault != (api.Fault{}) || len(l) != 4+32000 || l[0].Size != 32003 || l[3].Size != 32000 || !tree.May(l) {
		t.Error("a long block:", fault, len(l))
	}
	l, fault = Parse(strings.Repeat("fn f(){}", 8192))
	if fault != (api.Fault{}) || len(l) != 1+3*8192 || !tree.May(l) {
		t.Error("many functions:", fault, len(l))
	}
}

func TestManyParametersAndFields(t *testing.T) { // P6.1
	// What is too many is asked by a layer above.
	l, fault := Parse("fn f(" + strings.Repeat("a:int,", 299) + "a:int){}")
	if fault != (api.Fault{}) || len(l) != 604 || l[1].Num != 300 || !tree.May(l) {
		t.Error("300 parameters:", fault, len(l))
	}
	l, fault = Parse("rec P{" + strings.Repeat("a:int;", 300) + "}")
	if fault != (api.Fault{}) || len(l) != 602 || !tree.May(l) {
		t.Error("300 fields:", fault, len(l))
	}
}

func TestParametersAreCounted(t *testing.T) { // P6.1
	l, _ := Parse("fn f(a: int, b: [P]) { f(a, b, 1); } fn g() { } fn h(c: int): int { return c; }")
	var nums []int64
	for _, n := range l {
		if n.Kind == api.KFn {
			nums = append(nums, n.Num)
		}
	}
	if !slices.Equal(nums, []int64{2, 0, 1}) {
		t.Error("parameters:", nums)
	}
}

func TestWrongDeclarations(t *testing.T) { // P6.1
	for s, col := range map[string]int{
		"rec": 4, "rec p { }": 5, "rec fn { }": 5, "rec P ( )": 7, "rec P { a }": 11, "rec P { a: int }": 16, "rec P { a: int, }": 15, "rec P { A: int; }": 9, "rec P { ; }": 9, "rec P { a: 3; }": 12, "rec P { a: [int; }": 16, "rec P { a: []; }": 13, "rec P { a: int; ": 17, "rec P { };": 10,
		"fn": 3, "fn F() { }": 4, "fn int() { }": 4, "fn f { }": 6, "fn f( { }": 7, "fn f(a) { }": 7, "fn f(a: int,) { }": 13, "fn f(,) { }": 6, "fn f(a: int b: int) { }": 13, "fn f(a: int;) { }": 12, "fn f(): { }": 9, "fn f() int { }": 8, "fn f();": 7, "fn f() = 3;": 8, "fn f() { } }": 12, "fn f() {": 9, "fn f() ": 8, "fn f(a: A B) { }": 11,
	} {
		program().wantFault(t, s, api.ErrParse, 1, col)
	}
}

func TestAnswersAreNew(t *testing.T) { // P0.3, P0.5
	for _, f := range []face{program(), expression()} {
		s := map[string]string{"program": "rec P { a: int; } fn f(a: [P]) { a[0].a = -1; }", "alone": "f(a, 1) + b[0].c"}[f.start]
		first, _ := f.call(s)
		kept := slices.Clone(first)
		second, _ := f.call(s)
		clear(second)
		clear(second[len(second):cap(second)])
		third, _ := f.call(s)
		if !slices.Equal(first, kept) || !slices.Equal(third, kept) {
			t.Errorf("%s(%q): %s, then %s, want %s", f.name, s, shown(first), shown(third), shown(kept))
		}
	}
}
