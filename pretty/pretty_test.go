package pretty

import (
	"fmt"
	"slices"
	"strings"
	"testing"

	"hindcast/api"
	"hindcast/lex"
	"hindcast/parse"
	"hindcast/tree"
)

// face is one of the three functions, with what reads its text again.
type face struct {
	name  string
	write func([]api.Node) (string, api.Errno)
	read  func(string) ([]api.Node, api.Fault)
}

func program() face    { return face{"Program", Program, parse.Parse} }
func expression() face { return face{"Expr", Expr, parse.Expr} }

// kind answers ErrArg where there is the empty text.
func kind() face {
	write := func(l []api.Node) (string, api.Errno) {
		if s := Kind(l); s != "" {
			return s, api.OK
		}
		return "", api.ErrArg
	}
	read := func(s string) ([]api.Node, api.Fault) {
		l, fault := parse.Parse("rec R{a:" + s + ";}")
		if fault.Code != api.OK {
			return nil, fault
		}
		return l[3:], fault
	}
	return face{"Kind", write, read}
}

func faces() []face { return []face{program(), expression(), kind()} }

// shown is a row or a text cut short: both may be long.
func shown(what any) string { return fmt.Sprintf("%.300s", fmt.Sprintf("%q", fmt.Sprint(what))) }

func (f face) wantText(t *testing.T, l []api.Node, want string) {
	t.Helper()
	if got, err := f.write(l); got != want || err != api.OK {
		t.Errorf("%s(%s): %s, %v, want %s", f.name, shown(l), shown(got), err, shown(want))
	}
}

func (f face) wantRefused(t *testing.T, l []api.Node) {
	t.Helper()
	if got, err := f.write(l); got != "" || err != api.ErrArg {
		t.Errorf("%s(%s): %s, %v, want none", f.name, shown(l), shown(got), err)
	}
}

// wantRight asks for a text that is read as the tree, has no brackets but those that are needed, and stands in lines as the chapter says.
func (f face) wantRight(t *testing.T, l []api.Node) {
	t.Helper()
	s, err := f.write(l)
	back, fault := f.read(s)
	if err != api.OK || fault != (api.Fault{}) || !tree.Same(back, l) {
		t.Fatalf("%s(%s): %s, %v, read as %s, %v", f.name, shown(l), shown(s), err, shown(back), fault)
	}
	tokens, _ := lex.Tokens(s)
	if want := laidOut(tokens[:len(tokens)-1]); s != want {
		t.Fatalf("%s(%s): %q, want %q", f.name, shown(l), s, want)
	}
	for _, shorter := range withoutBrackets(s) {
		if back, fault := f.read(shorter); fault.Code == api.OK && tree.Same(back, l) {
			t.Fatalf("%s(%s): %q, but %q is read the same", f.name, shown(l), s, shorter)
		}
	}
}

// wantOf holds the text of what is read from a text against another one.
func (f face) wantOf(t *testing.T, s, want string) {
	t.Helper()
	l, fault := f.read(s)
	if fault != (api.Fault{}) {
		t.Fatalf("%q isn't read: %v", s, fault)
	}
	f.wantText(t, l, want)
	f.wantRight(t, l)
}

func name(s string) branch             { return of(api.KName).text(s) }
func whole(n int64) branch             { return of(api.KInt).num(n) }
func recType(s string) branch          { return of(api.KRecT).text(s) }
func un(op int64, a branch) branch     { return of(api.KUn, a).num(op) }
func bin(op int64, a, b branch) branch { return of(api.KBin, a, b).num(op) }
func block(kids ...branch) branch      { return of(api.KBlock, kids...) }

func call(s string, kids ...branch) branch { return of(api.KCall, kids...).text(s) }

func dot(a branch, s string) branch { return of(api.KDot, a).text(s) }

// mainOf is a program with these statements.
func mainOf(statements ...branch) branch {
	return of(api.KProg, of(api.KFn, of(api.KNoneT), block(statements...)).text("main"))
}

func wantStatement(t *testing.T, b branch, want string) {
	t.Helper()
	l := mainOf(b).row()
	program().wantText(t, l, "fn main() {\n\t"+strings.ReplaceAll(want, "\n", "\n\t")+"\n}\n")
	program().wantRight(t, l)
}

func TestExamples(t *testing.T) { // P7.1
	expression().wantOf(t, "(a+b)*(c)", "(a + b) * c")
	expression().wantOf(t, "a-(b-c)-d", "a - (b - c) - d")
	expression().wantOf(t, "-(-x)", "--x")
	program().wantOf(t, "fn main() { print 1 + 2; }", "fn main() {\n\tprint 1 + 2;\n}\n")
}

func TestAtoms(t *testing.T) { // P7.1
	for want, b := range map[string]branch{
		"0": whole(0), "7": whole(7), "10": whole(10), "1000000": whole(1000000), "9223372036854775807": whole(1<<63 - 1),
		"0i": of(api.KComp), "3i": of(api.KComp).num(3), "8388607i": of(api.KComp).num(api.MaxGauss - 1),
		"true": of(api.KBool).num(1), "false": of(api.KBool), "nil": of(api.KNil),
		"a": name("a"), "_x9": name("_x9"), "text": name("text"), "aB_": name("aB_"), "int1": name("int1"),
		`""`: of(api.KStr), `"a b"`: of(api.KStr).text("a b"), `"nil"`: of(api.KStr).text("nil"),
	} {
		expression().wantText(t, b.row(), want)
		expression().wantRight(t, b.row())
		wantStatement(t, of(api.KPrint, b), "print "+want+";")
	}
}

func TestLiterals(t *testing.T) { // P7.1, P7.2
	expression().wantText(t, of(api.KStr).text("a\"\\\n\t\r\x00\x1f ~\x7f\x80\xff").row(), `"a\"\\\n\t\x0d\x00\x1f ~\x7f\x80\xff"`)
	all := ""
	for n := range 256 {
		all += string([]byte{byte(n)})
		l := of(api.KStr).text(all[n:]).row()
		expression().wantText(t, l, literal(all[n:]))
		expression().wantRight(t, l)
		wantStatement(t, of(api.KPrint, call("f", of(api.KStr).text("{"+all[n:]+";"))), "print f("+literal("{"+all[n:]+";")+");")
	}
	expression().wantText(t, of(api.KStr).text(all).row(), literal(all))
	expression().wantRight(t, of(api.KStr).text(all).row())
}

func TestTwoOperators(t *testing.T) { // P7.1, P7.2
	a, b, c := name("a"), name("b"), name("c")
	for x, opX := range operations() {
		for y, opY := range operations() {
			inner, outer := levelOf(x), levelOf(y)
			text, onLeft, onRight := "a "+x+" b", "a "+x+" b "+y+" c", "c "+y+" a "+x+" b"
			if isAlone := outer == 2 || outer == 3; inner < outer || isAlone && inner == outer {
				onLeft = "(" + text + ") " + y + " c"
			}
			if inner <= outer {
				onRight = "c " + y + " (" + text + ")"
			}
			left, right := bin(opY, bin(opX, a, b), c).row(), bin(opY, c, bin(opX, a, b)).row()
			expression().wantText(t, left, onLeft)
			expression().wantText(t, right, onRight)
			expression().wantRight(t, left)
			expression().wantRight(t, right)
		}
	}
}

func TestThreeOperators(t *testing.T) { // P7.1, P7.2
	a := name("a")
	for _, x := range operations() {
		for _, y := range operations() {
			for _, z := range operations() {
				expression().wantRight(t, bin(x, bin(y, a, bin(z, a, a)), a).row())
				expression().wantRight(t, bin(x, bin(y, bin(z, a, a), a), a).row())
				expression().wantRight(t, bin(x, a, bin(y, bin(z, a, a), a)).row())
				expression().wantRight(t, bin(x, a, bin(y, a, bin(z, a, a))).row())
				expression().wantRight(t, bin(x, bin(y, a, a), bin(z, a, a)).row())
			}
		}
	}
}

func TestBracketsByHand(t *testing.T) { // P7.1
	for s, want := range map[string]string{
		"((a||b))||c": "a || b || c", "a||(b||c)": "a || (b || c)", "(a&&b)||(c&&d)": "a && b || c && d", "(a||b)&&(c||d)": "(a || b) && (c || d)",
		"a&&(b&&c)": "a && (b && c)", "a&&b&&c": "a && b && c",
		"(a==b)==c": "(a == b) == c", "a==(b==c)": "a == (b == c)", "(a!=b)==c": "(a != b) == c", "a!=(b==c)": "a != (b == c)",
		"(a<b)<c": "(a < b) < c", "a<(b<c)": "a < (b < c)", "(a<=b)>c": "(a <= b) > c", "a>=(b>c)": "a >= (b > c)",
		"(a<b)==c": "a < b == c", "a==(b<c)": "a == b < c", "(a<b)!=(c>=d)": "a < b != c >= d",
		"(a==b)<c": "(a == b) < c", "a<(b==c)": "a < (b == c)", "(a+b)<(c-d)": "a + b < c - d", "(a<b)+c": "(a < b) + c",
		"(a+b)-c": "a + b - c", "a-(b+c)": "a - (b + c)", "(a-b)-(c-d)": "a - b - (c - d)", "a+(b*c)": "a + b * c", "(a+b)*c": "(a + b) * c", "a*(b+c)": "a * (b + c)",
		"(a*b)/c": "a * b / c", "a*(b/c)": "a * (b / c)", "a/(b%c)": "a / (b % c)", "(a%b)*(c/d)": "a % b * (c / d)",
		"a||(b&&(c==(d<(e+(f*(-g))))))": "a || b && c == d < e + f * -g", "(((((a||b)&&c)==d)<e)+f)*g": "(((((a || b) && c) == d) < e) + f) * g",
	} {
		expression().wantOf(t, s, want)
	}
}

func TestUnarySigns(t *testing.T) { // P7.1, P7.2
	a, b, neg, not := name("a"), name("b"), int64(api.OpNeg), int64(api.OpNot)
	for want, tree := range map[string]branch{
		"-a": un(neg, a), "!a": un(not, a), "--a": un(neg, un(neg, a)), "!!a": un(not, un(not, a)), "-!a": un(neg, un(not, a)), "!-a": un(not, un(neg, a)), "--!!-a": un(neg, un(neg, un(not, un(not, un(neg, a))))),
		"-1": un(neg, whole(1)), "-9223372036854775807": un(neg, whole(1<<63-1)), "-3i": un(neg, of(api.KComp).num(3)), "!true": un(not, of(api.KBool).num(1)), "-nil": un(neg, of(api.KNil)), `!""`: un(not, of(api.KStr)),
		"-f(a)": un(neg, call("f", a)), "-a[b]": un(neg, of(api.KIndex, a, b)), "!a.b": un(not, dot(a, "b")), "-make A()": un(neg, of(api.KMake, recType("A"))),
		"(-a)[b]": of(api.KIndex, un(neg, a), b), "(!a).b": dot(un(not, a), "b"), "a[-b]": of(api.KIndex, a, un(neg, b)), "-(-a).b": un(neg, dot(un(neg, a), "b")),
		"a - -b": bin(api.OpSub, a, un(neg, b)), "-a - -b": bin(api.OpSub, un(neg, a), un(neg, b)), "a - --b": bin(api.OpSub, a, un(neg, un(neg, b))), "-(a - b)": un(neg, bin(api.OpSub, a, b)),
		"!a != !b": bin(api.OpNe, un(not, a), un(not, b)), "f(-a, !b)": call("f", un(neg, a), un(not, b)),
	} {
		expression().wantText(t, tree.row(), want)
		expression().wantRight(t, tree.row())
	}
	for _, op := range []int64{neg, not} {
		for sign, x := range operations() {
			u := signOf(op)
			for want, tree := range map[string]branch{
				u + "(a " + sign + " b)": un(op, bin(x, a, b)), u + "a " + sign + " b": bin(x, un(op, a), b), "a " + sign + " " + u + "b": bin(x, a, un(op, b)),
				u + u + "(a " + sign + " b)": un(op, un(op, bin(x, a, b))), "a " + sign + " " + u + "(b " + sign + " a)": bin(x, a, un(op, bin(x, b, a))),
				"(" + u + "(a " + sign + " b)).a": dot(un(op, bin(x, a, b)), "a"),
			} {
				expression().wantText(t, tree.row(), want)
				expression().wantRight(t, tree.row())
			}
		}
	}
}

// eachExpression has one of each kind, and of each operator, with its text and whether it has brackets ahead of an index or a point.
func eachExpression() (texts []string, trees []branch, bracketed []bool) {
	add := func(text string, tree branch, has bool) {
		texts, trees, bracketed = append(texts, text), append(trees, tree), append(bracketed, has)
	}
	a, b := name("a"), name("b")
	add("1", whole(1), false)
	add("2i", of(api.KComp).num(2), false)
	add(`"x"`, of(api.KStr).text("x"), false)
	add("true", of(api.KBool).num(1), false)
	add("false", of(api.KBool), false)
	add("nil", of(api.KNil), false)
	add("a", a, false)
	add("f()", call("f"), false)
	add("f(a)", call("f", a), false)
	add("f(a, b, 1)", call("f", a, b, whole(1)), false)
	add("a[b]", of(api.KIndex, a, b), false)
	add("a.b", dot(a, "b"), false)
	add("-a", un(api.OpNeg, a), true)
	add("!a", un(api.OpNot, a), true)
	for sign, op := range operations() {
		add("a "+sign+" b", bin(op, a, b), true)
	}
	add("make A()", of(api.KMake, recType("A")), false)
	add("make [int](a)", of(api.KMake, of(api.KListT, of(api.KIntT)), a), false)
	return texts, trees, bracketed
}

func TestAheadOfIndexAndPoint(t *testing.T) { // P7.1, P7.2
	texts, trees, bracketed := eachExpression()
	for i, text := range texts {
		ahead := text
		if bracketed[i] {
			ahead = "(" + text + ")"
		}
		for want, tree := range map[string]branch{
			ahead + "[b]": of(api.KIndex, trees[i], name("b")), ahead + ".b": dot(trees[i], "b"),
			ahead + "[b].c[0]":      of(api.KIndex, dot(of(api.KIndex, trees[i], name("b")), "c"), whole(0)),
			"a[" + text + "]":       of(api.KIndex, name("a"), trees[i]),
			"-" + ahead + ".b.c":    un(api.OpNeg, dot(dot(trees[i], "b"), "c")),
			"a * " + ahead + ".b":   bin(api.OpMul, name("a"), dot(trees[i], "b")),
			"a[b[" + text + "]]":    of(api.KIndex, name("a"), of(api.KIndex, name("b"), trees[i])),
			"(-" + ahead + ".b).c":  dot(un(api.OpNeg, dot(trees[i], "b")), "c"),
			"f(" + ahead + "[0]).b": dot(call("f", of(api.KIndex, trees[i], whole(0))), "b"),
		} {
			expression().wantText(t, tree.row(), want)
			expression().wantRight(t, tree.row())
		}
	}
}

func TestCallsAndMakes(t *testing.T) { // P7.1, P7.2
	texts, trees, _ := eachExpression()
	for i, text := range texts {
		a, b := trees[i], name("b")
		ints := of(api.KListT, of(api.KIntT))
		for want, tree := range map[string]branch{
			"f(" + text + ")": call("f", a), "f(" + text + ", b)": call("f", a, b), "f(b, " + text + ")": call("f", b, a), "f(b, " + text + ", " + text + ", b)": call("f", b, a, a, b), "g_1(f(), f(" + text + "))": call("g_1", call("f"), call("f", a)),
			"make [int](" + text + ")": of(api.KMake, ints, a), "f(make [[A]](" + text + "), make A())": call("f", of(api.KMake, of(api.KListT, of(api.KListT, recType("A"))), a), of(api.KMake, recType("A"))),
			"make [int](make [int](" + text + "))": of(api.KMake, ints, of(api.KMake, ints, a)),
		} {
			expression().wantText(t, tree.row(), want)
			expression().wantRight(t, tree.row())
		}
	}
}

// eachType has one of each type, lists in one another among them.
func eachType() map[string]branch {
	m := map[string]branch{"int": of(api.KIntT), "bool": of(api.KBoolT), "str": of(api.KStrT), "comp": of(api.KCompT), "A": recType("A"), "Int_9": recType("Int_9")}
	for text, tree := range map[string]branch{"int": of(api.KIntT), "bool": of(api.KBoolT), "str": of(api.KStrT), "comp": of(api.KCompT), "A": recType("A")} {
		for range 3 {
			text, tree = "["+text+"]", of(api.KListT, tree)
			m[text] = tree
		}
	}
	return m
}

func TestTypes(t *testing.T) { // P7.1, P7.2
	for want, tree := range eachType() {
		kind().wantText(t, tree.row(), want)
		kind().wantRight(t, tree.row())
		wantStatement(t, of(api.KVar, tree, name("a")).text("b"), "var b: "+want+" = a;")
		expression().wantText(t, of(api.KMake, of(api.KListT, tree), name("a")).row(), "make ["+want+"](a)")
		one := of(api.KProg, of(api.KRec, of(api.KField, tree).text("a")).text("R"), of(api.KFn, of(api.KParam, tree).text("b"), tree, block()).text("f").num(1))
		program().wantText(t, one.row(), "rec R {\n\ta: "+want+";\n}\nfn f(b: "+want+"): "+want+" {\n}\n")
		program().wantRight(t, one.row())
	}
}

func TestStatements(t *testing.T) { // P7.1, P7.2
	texts, trees, _ := eachExpression()
	for i, text := range texts {
		a, b := trees[i], name("b")
		wantStatement(t, of(api.KVar, of(api.KIntT), a).text("b"), "var b: int = "+text+";")
		wantStatement(t, of(api.KSet, b, a), "b = "+text+";")
		wantStatement(t, of(api.KSet, of(api.KIndex, b, a), a), "b["+text+"] = "+text+";")
		wantStatement(t, of(api.KSet, dot(b, "c"), a), "b.c = "+text+";")
		wantStatement(t, of(api.KIf, a, block()), "if "+text+" {\n}")
		wantStatement(t, of(api.KIf, a, block(), block()), "if "+text+" {\n} else {\n}")
		wantStatement(t, of(api.KWhile, a, block()), "while "+text+" {\n}")
		wantStatement(t, of(api.KReturn, a), "return "+text+";")
		wantStatement(t, of(api.KPrint, a), "print "+text+";")
		wantStatement(t, of(api.KDo, call("f", a)), "f("+text+");")
	}
	wantStatement(t, of(api.KReturn), "return;")
	wantStatement(t, of(api.KDo, call("f")), "f();")
	wantStatement(t, of(api.KSet, dot(un(api.OpNeg, name("a")), "b"), name("c")), "(-a).b = c;")
	wantStatement(t, of(api.KSet, of(api.KIndex, bin(api.OpAdd, name("a"), name("b")), whole(0)), name("c")), "(a + b)[0] = c;")
	wantStatement(t, of(api.KSet, of(api.KIndex, of(api.KMake, recType("A")), whole(0)), name("c")), "make A()[0] = c;")
	wantStatement(t, of(api.KPrint, bin(api.OpMul, bin(api.OpAdd, name("a"), name("b")), name("c"))), "print (a + b) * c;")
	wantStatement(t, of(api.KIf, dot(un(api.OpNot, name("a")), "b"), block()), "if (!a).b {\n}")
}

func TestBlocks(t *testing.T) { // P7.1, P7.2
	a := name("a")
	say, leave := of(api.KPrint, a), of(api.KReturn)
	wantStatement(t, of(api.KIf, a, block(say)), "if a {\n\tprint a;\n}")
	wantStatement(t, of(api.KIf, a, block(say, leave), block()), "if a {\n\tprint a;\n\treturn;\n} else {\n}")
	wantStatement(t, of(api.KIf, a, block(), block(say)), "if a {\n} else {\n\tprint a;\n}")
	wantStatement(t, of(api.KIf, a, block(say), block(leave)), "if a {\n\tprint a;\n} else {\n\treturn;\n}")
	wantStatement(t, of(api.KWhile, a, block(say, say)), "while a {\n\tprint a;\n\tprint a;\n}")
	// An if within an else stands in a block of its own.
	wantStatement(t, of(api.KIf, a, block(), block(of(api.KIf, a, block()))), "if a {\n} else {\n\tif a {\n\t}\n}")
	wantStatement(t, of(api.KIf, a, block(of(api.KIf, a, block())), block()), "if a {\n\tif a {\n\t}\n} else {\n}")
	wantStatement(t, of(api.KIf, a, block(of(api.KIf, a, block(), block()))), "if a {\n\tif a {\n\t} else {\n\t}\n}")
	program().wantText(t, mainOf(say, of(api.KWhile, a, block(of(api.KIf, a, block(say, of(api.KWhile, a, block(leave)), say), block(say)), say)), leave).row(), `fn main() {
	print a;
	while a {
		if a {
			print a;
			while a {
				return;
			}
			print a;
		} else {
			print a;
		}
		print a;
	}
	return;
}
`)
}

func TestDeclarations(t *testing.T) { // P7.1, P7.2
	field := func(s string, b branch) branch { return of(api.KField, b).text(s) }
	param := func(s string, b branch) branch { return of(api.KParam, b).text(s) }
	fn := func(s string, params int64, kids ...branch) branch { return of(api.KFn, kids...).text(s).num(params) }
	none, whole := of(api.KNoneT), of(api.KIntT)
	for want, decl := range map[string]branch{
		"rec A {\n}\n": of(api.KRec).text("A"), "rec A {\n\ta: int;\n}\n": of(api.KRec, field("a", whole)).text("A"),
		"rec Pair_2 {\n\ta: int;\n\tb: [Pair_2];\n\t_: str;\n}\n": of(api.KRec, field("a", whole), field("b", of(api.KListT, recType("Pair_2"))), field("_", of(api.KStrT))).text("Pair_2"),
		"fn f() {\n}\n": fn("f", 0, none, block()), "fn f(): int {\n}\n": fn("f", 0, whole, block()), "fn f(): [[A]] {\n}\n": fn("f", 0, of(api.KListT, of(api.KListT, recType("A"))), block()),
		"fn f(a: int) {\n}\n": fn("f", 1, param("a", whole), none, block()), "fn f(a: int): A {\n}\n": fn("f", 1, param("a", whole), recType("A"), block()),
		"fn f(a: int, b: [str]) {\n}\n":                        fn("f", 2, param("a", whole), param("b", of(api.KListT, of(api.KStrT))), none, block()),
		"fn f(a: A, b: int, _c: bool): comp {\n\treturn;\n}\n": fn("f", 3, param("a", recType("A")), param("b", whole), param("_c", of(api.KBoolT)), of(api.KCompT), block(of(api.KReturn))),
	} {
		program().wantText(t, of(api.KProg, decl).row(), want)
		program().wantRight(t, of(api.KProg, decl).row())
		program().wantText(t, of(api.KProg, decl, decl).row(), want+want)
		for _, other := range []branch{of(api.KRec).text("B"), fn("g", 0, none, block())} {
			text := map[uint8]string{api.KRec: "rec B {\n}\n", api.KFn: "fn g() {\n}\n"}[other.node.Kind]
			l := of(api.KProg, other, decl, other, other, decl).row()
			program().wantText(t, l, text+want+text+text+want)
			program().wantRight(t, l)
		}
	}
	program().wantText(t, of(api.KProg).row(), "")
	program().wantRight(t, of(api.KProg).row())
}

func TestManyOfAll(t *testing.T) { // P7.1, P7.2
	const many = 300
	fields, params, args := of(api.KRec).text("A"), of(api.KFn).text("f").num(many), call("f")
	for range many {
		fields.kids = append(fields.kids, of(api.KField, of(api.KIntT)).text("a"))
		params.kids = append(params.kids, of(api.KParam, of(api.KIntT)).text("a"))
		args.kids = append(args.kids, name("a"))
	}
	statements := slices.Repeat([]branch{of(api.KDo, args)}, 5)
	params.kids = append(params.kids, of(api.KNoneT), block(statements...))
	l := of(api.KProg, fields, params).row()
	program().wantText(t, l, "rec A {\n"+strings.Repeat("\ta: int;\n", many)+"}\nfn f("+strings.Repeat("a: int, ", many-1)+"a: int) {\n"+strings.Repeat("\tf("+strings.Repeat("a, ", many-1)+"a);\n", 5)+"}\n")
	program().wantRight(t, l)
}

func TestAnyPlaces(t *testing.T) { // P7.1
	l, _ := parse.Parse("rec A { a: [int]; } fn f(a: int): A { if a { a = -a[1] + f(2i, \"x\"); } return nil; }")
	want, _ := Program(l)
	for _, place := range []int{0, -1, 1 << 40, -1 << 63} {
		moved := slices.Clone(l)
		for i := range moved {
			moved[i].Line, moved[i].Col = place, place+i
		}
		program().wantText(t, moved, want)
	}
}

// wrongRows are refused by all.
func wrongRows() [][]api.Node {
	one := func(kind uint8, size int) api.Node { return api.Node{Kind: kind, Size: size} }
	return [][]api.Node{
		nil, {}, {{}}, {one(0, 1), one(api.KInt, 0)}, {one(33, 0)}, {one(255, 0)},
		{one(api.KProg, 1)}, {one(api.KProg, -1)}, {one(api.KProg, 0), one(api.KProg, 0)}, {one(api.KProg, 1), one(api.KProg, 0)}, {one(api.KProg, 1), one(api.KInt, 0)},
		{one(api.KInt, 1)}, {one(api.KInt, -1)}, {one(api.KInt, 1<<63-1)}, {one(api.KInt, -1<<63)}, {one(api.KInt, 0), one(api.KInt, 0)}, {one(api.KInt, 1), one(api.KInt, 0)},
		{one(api.KIntT, 1)}, {one(api.KIntT, -1)}, {one(api.KIntT, 0), one(api.KIntT, 0)}, {one(api.KIntT, 1), one(api.KIntT, 0)},
		{one(api.KListT, 0)}, {one(api.KListT, 1)}, {one(api.KListT, 0), one(api.KIntT, 0)}, {one(api.KListT, 2), one(api.KIntT, 0)}, {one(api.KListT, 2), one(api.KIntT, 0), one(api.KIntT, 0)}, {one(api.KListT, 1), one(api.KNoneT, 0)}, {one(api.KListT, 1), one(api.KInt, 0)}, {one(api.KListT, 1), one(api.KRecT, 0)},
		{one(api.KNoneT, 0)}, {one(api.KRecT, 0)}, {one(api.KName, 0)}, {one(api.KCall, 0)}, {one(api.KUn, 0)}, {one(api.KMake, 0)}, {one(api.KBlock, 0)}, {one(api.KReturn, 0)},
		{one(api.KPrint, 1), one(api.KInt, 0)}, {one(api.KDot, 1), one(api.KInt, 0)}, {one(api.KUn, 1), one(api.KInt, 0)}, {one(api.KBin, 2), one(api.KInt, 0), one(api.KInt, 0)}, {one(api.KMake, 1), one(api.KIntT, 0)},
		{{Kind: api.KProg, Num: 1}}, {{Kind: api.KProg, Text: "a"}}, {{Kind: api.KNil, Num: 1}}, {{Kind: api.KNil, Text: "a"}}, {{Kind: api.KIntT, Num: 1}}, {{Kind: api.KIntT, Text: "A"}},
		{{Kind: api.KInt, Num: -1}}, {{Kind: api.KInt, Num: -1 << 63}}, {{Kind: api.KComp, Num: -1}}, {{Kind: api.KComp, Num: api.MaxGauss}}, {{Kind: api.KBool, Num: 2}}, {{Kind: api.KBool, Num: -1}},
		{{Kind: api.KName, Text: "A"}}, {{Kind: api.KName, Text: "if"}}, {{Kind: api.KName, Text: "a b"}}, {{Kind: api.KName, Text: "1"}}, {{Kind: api.KRecT, Text: "a"}}, {{Kind: api.KRecT, Text: "int"}}, {{Kind: api.KRecT, Text: "A", Num: 1}}, {{Kind: api.KRecT, Text: "A "}},
	}
}

func TestWrongRows(t *testing.T) { // P7.1, P0.1, P0.2, P0.4
	for _, l := range wrongRows() {
		for _, f := range faces() {
			f.wantRefused(t, l)
		}
	}
	whole, _ := parse.Parse("rec A { a: [int]; } fn f(a: int): A { if a { a = f(2i); } return nil; }")
	for at := range whole {
		for end := at; end <= len(whole); end++ {
			l := whole[at:end]
			if !tree.May(l) {
				program().wantRefused(t, l)
			}
			if n := whole[at]; end != at+1+n.Size || n.Kind < api.KInt {
				expression().wantRefused(t, l)
			}
			if n := whole[at]; end != at+1+n.Size || n.Kind <= api.KNoneT || n.Kind > api.KListT {
				kind().wantRefused(t, l)
			}
		}
	}
}

// inReturn is a program's tree, if a row is an expression's.
func inReturn(l []api.Node) []api.Node {
	return slices.Concat([]api.Node{{Kind: api.KProg, Size: len(l) + 9}, {Kind: api.KFn, Size: len(l) + 8, Text: "f"}, {Kind: api.KNoneT}, {Kind: api.KBlock, Size: len(l) + 6}, {Kind: api.KReturn, Size: len(l) + 5}, {Kind: api.KCall, Size: len(l) + 4, Text: "f"}, {Kind: api.KNil}, {Kind: api.KUn, Size: len(l) + 1, Num: api.OpNot}, {Kind: api.KUn, Size: len(l), Num: api.OpNot}}, l, []api.Node{{Kind: api.KNil}})
}

// inParam is a program's tree, if a row is a type's.
func inParam(l []api.Node) []api.Node {
	return slices.Concat([]api.Node{{Kind: api.KProg, Size: len(l) + 4}, {Kind: api.KFn, Size: len(l) + 3, Text: "f", Num: 1}, {Kind: api.KParam, Size: len(l), Text: "a"}}, l, []api.Node{{Kind: api.KNoneT}, {Kind: api.KBlock}})
}

// wantAsked asks all three of a row, whatever it is.
func wantAsked(t *testing.T, l []api.Node) {
	t.Helper()
	for i, may := range []bool{tree.May(l), tree.May(inReturn(l)), tree.May(inParam(l))} {
		if f := faces()[i]; may {
			f.wantRight(t, l)
		} else {
			f.wantRefused(t, l)
		}
	}
}

func TestAllShortRows(t *testing.T) { // P7.1, P7.2, P0.1
	// Fields that let as many kinds as can be stand there.
	dressed := func(kind uint8, size int) api.Node {
		n := api.Node{Kind: kind, Size: size}
		switch kind {
		case api.KRec, api.KRecT:
			n.Text = "A"
		case api.KField, api.KFn, api.KParam, api.KVar, api.KName, api.KCall, api.KDot:
			n.Text = "a"
		case api.KUn:
			n.Num = api.OpNeg
		case api.KBin:
			n.Num = api.OpSub
		}
		return n
	}
	for a := range uint8(34) {
		for size := -1; size <= 3; size++ {
			first := dressed(a, size)
			wantAsked(t, []api.Node{first})
			for b := range uint8(34) {
				for _, next := range []int{-1, 0, 1} {
					wantAsked(t, []api.Node{first, dressed(b, next)})
				}
				if size != 2 {
					continue
				}
				for c := range uint8(34) {
					wantAsked(t, []api.Node{first, dressed(b, 0), dressed(c, 0)})
					wantAsked(t, []api.Node{first, dressed(b, 1), dressed(c, 0)})
				}
			}
		}
	}
}

func TestChangedRows(t *testing.T) { // P7.1, P0.1
	s := `rec A { a: int; b: [A]; } rec B { } fn f(a: bool, b: str): comp { var c: int = 1; a = 2i; a[0] = "x"; a.b = true; if a { f(a, b); } else { } if nil { return; } while !a { return -a * b; } print make A(); print make [int](3); }`
	l, fault := parse.Parse(s)
	if fault.Code != api.OK {
		t.Fatal(fault)
	}
	for at := range l {
		for kind := range uint8(34) {
			wantAsked(t, changed(l, at, func(n *api.Node) { n.Kind = kind }))
		}
		for _, size := range []int{-1 << 63, -1, 0, 1, 2, 3, 1<<63 - 1} {
			wantAsked(t, changed(l, at, func(n *api.Node) { n.Size = size }))
		}
		for num := int64(-1); num <= 16; num++ {
			wantAsked(t, changed(l, at, func(n *api.Node) { n.Num = num }))
		}
		for _, text := range []string{"", "a", "A", "if", "int", "a.b", "\xff"} {
			wantAsked(t, changed(l, at, func(n *api.Node) { n.Text = text }))
		}
	}
}

func changed(l []api.Node, at int, change func(*api.Node)) []api.Node {
	l = slices.Clone(l)
	change(&l[at])
	return l
}

func TestAllShortTrees(t *testing.T) { // P7.1, P7.2
	all, few := newShelf(forms()), newShelf(fewForms())
	count := 0
	for _, c := range []struct {
		f     face
		shelf *shelf
		what  string
		size  int
	}{{program(), all, "program", 7}, {expression(), all, "expr", 4}, {expression(), few, "expr", 7}, {kind(), all, "type", 12}} {
		for size := range c.size + 1 {
			for _, l := range c.shelf.all(c.what, size) {
				c.f.wantRight(t, l)
				count++
			}
		}
	}
	if count < 70000 {
		t.Error("too few short trees:", count)
	}
}

func TestGrownTrees(t *testing.T) { // P7.1, P7.2
	g := newGarden(0x2545f4914f6cdd1d)
	for i := range 1500 {
		program().wantRightUnlessDeep(t, g.grown("program", i%200))
		program().wantRightUnlessDeep(t, mainWith(g.grown("statements", i%100)))
		expression().wantRightUnlessDeep(t, g.grown("expr", i%70))
		kind().wantRight(t, g.grown("type", i%30))
	}
}

// mainWith is a program with statements that stand one behind the other.
func mainWith(l []api.Node) []api.Node {
	return slices.Concat([]api.Node{{Kind: api.KProg, Size: len(l) + 3}, {Kind: api.KFn, Size: len(l) + 2, Text: "f"}, {Kind: api.KNoneT}, {Kind: api.KBlock, Size: len(l)}}, l)
}

// wantRightUnlessDeep lets a text be too deep, but only that of a tree in which enough stands in one another.
func (f face) wantRightUnlessDeep(t *testing.T, l []api.Node) {
	t.Helper()
	s, err := f.write(l)
	if _, fault := f.read(s); err == api.OK && fault.Code == api.ErrDeep && levelsOf(l) > 20 {
		return
	}
	f.wantRight(t, l)
}

// levelsOf is how many nodes stand in one another.
func levelsOf(l []api.Node) int {
	var ends []int
	most := 0
	for at, n := range l {
		for len(ends) > 0 && ends[len(ends)-1] < at {
			ends = ends[:len(ends)-1]
		}
		ends = append(ends, at+n.Size)
		most = max(most, len(ends))
	}
	return most
}

// wantStays asks for a text that is written, read and written again as the same.
func (f face) wantStays(t *testing.T, s string) {
	t.Helper()
	l, fault := f.read(s)
	if fault != (api.Fault{}) {
		t.Fatalf("%s isn't read: %v", shown(s), fault)
	}
	once, err := f.write(l)
	back, fault := f.read(once)
	if err != api.OK || fault != (api.Fault{}) || !tree.Same(l, back) {
		t.Fatalf("of %s: %s, %v, read as %s, %v", shown(s), shown(once), err, shown(back), fault)
	}
	if twice, err := f.write(back); twice != once || err != api.OK {
		t.Fatalf("of %s: %s, then %s, %v", shown(s), shown(once), shown(twice), err)
	}
}

func TestTextsStay(t *testing.T) { // P7.2, P7.3
	g := newGarden(0x9e3779b97f4a7c15)
	for i := range 1500 {
		for _, c := range []struct {
			f face
			l []api.Node
		}{{program(), g.grown("program", i%150)}, {program(), mainWith(g.grown("statements", i%80))}, {expression(), g.grown("expr", i%50)}, {kind(), g.grown("type", i%30)}} {
			s := g.loose(c.l)
			back, fault := c.f.read(s)
			if fault.Code == api.ErrDeep && levelsOf(c.l) > 10 {
				continue
			}
			if fault != (api.Fault{}) || !tree.Same(back, c.l) {
				t.Fatalf("%q is read as %s, %v, want %s", s, shown(back), fault, shown(c.l))
			}
			c.f.wantStays(t, s)
			want, _ := c.f.write(c.l)
			c.f.wantText(t, back, want)
			// What is written is its own text, but for blanks and brackets that aren't needed.
			c.f.wantOf(t, want, want)
		}
	}
}

func TestTextsByHandStay(t *testing.T) { // P7.3
	for _, s := range []string{"", "# note\n", "rec A{}", "rec A{a:int;}fn f(){}", "fn f(){(a)=b;((a[0]))=(b);(f());(a).b=c;}", "fn f(a:int,b:[[A]]):str{if(a){}else{if b{}}while(a){return(a);}return;}", "fn f(){print \"\\x41\\x0A\\x7F\\\"\";print 007;print 0003i;}"} {
		program().wantStays(t, s)
	}
	program().wantOf(t, "fn f(){(a)=b;((a[0]))=(b);(f());(a).b=c;}", "fn f() {\n\ta = b;\n\ta[0] = b;\n\tf();\n\ta.b = c;\n}\n")
	program().wantOf(t, "fn f(){print \"\\x41\\x0A\\x7F\\\"\";print 007;print 0003i;}", "fn f() {\n\tprint \"A\\n\\x7f\\\"\";\n\tprint 7;\n\tprint 3i;\n}\n")
	program().wantOf(t, " # note\n\n fn # note\n f ( ) { # note\n }\n # note", "fn f() {\n}\n")
}

// nests are what may stand in one another in an expression: what is ahead of what stands within, and what is behind it.
func nests() [][2]string {
	return [][2]string{{"(", ")"}, {"a[", "]"}, {"f(", ")"}, {"-", ""}, {"!", ""}, {"f(a,", ",-b)"}, {"make[int](", ")"}, {"a*-", "+(b)"}, {"-(", ")[0]"}, {"(", ").b"}, {"(", ")[(0)]"}, {"a-(", ")"}, {"(", ")-a"}, {"a==(", ")"}, {"(", ")<(a)"}, {"a||(", ")"}, {"(", ")&&a"}, {"((", "))"}, {"-((", ")).b"}, {"!-(a+", ")"}}
}

func TestWhatIsReadIsNeverTooDeep(t *testing.T) { // P7.2, P7.3
	by, read := &dice{0xd1342543de82ef95}, 0
	for range 6000 {
		front, back := "", ""
		for range 14 + by.below(25) {
			n := nests()[by.below(len(nests()))]
			front, back = front+n[0], n[1]+back
		}
		s := front + []string{"a", "f()", "-a", "a[0]", "(a+b)", "make A()", "a.b", "a-b"}[by.below(8)] + back
		blocks := by.below(6)
		whole := "fn f(){" + strings.Repeat("if a{", blocks) + "a[" + s + "]=(" + s + ");while " + s + "{}" + strings.Repeat("}else{}", blocks) + "}"
		if _, fault := parse.Expr(s); fault.Code == api.OK {
			expression().wantStays(t, s)
			read++
		}
		if _, fault := parse.Parse(whole); fault.Code == api.OK {
			program().wantStays(t, whole)
			read++
		}
	}
	if read < 3000 {
		t.Error("too few were read:", read)
	}
	for _, n := range nests() {
		for count := range 41 {
			s := strings.Repeat(n[0], count) + "a" + strings.Repeat(n[1], count)
			if _, fault := parse.Expr(s); fault.Code == api.OK {
				expression().wantStays(t, s)
			}
		}
	}
}

func TestAsDeepAsCanBeRead(t *testing.T) { // P7.2, P7.3
	for _, s := range []string{strings.Repeat("-", 40) + "a", strings.Repeat("a[", 40) + "a" + strings.Repeat("]", 40), strings.Repeat("f(", 40) + "a" + strings.Repeat(")", 40), strings.Repeat("a - (", 40) + "a - a" + strings.Repeat(")", 40), strings.Repeat("(", 40) + "a == a" + strings.Repeat(") == a", 40), strings.Repeat("-", 39) + "(a + b)", "make " + strings.Repeat("[", 40) + "int" + strings.Repeat("]", 40) + "(a)"} {
		expression().wantOf(t, s, s)
	}
	expression().wantOf(t, within(20, "-(", "a + b", ")"), within(20, "-", "(a + b)", ""))
	expression().wantOf(t, within(20, "(-", "a", ").b"), within(20, "(-", "a", ").b"))
	program().wantStays(t, "fn f() {"+strings.Repeat("if a {", 39)+strings.Repeat("}", 40))
	program().wantStays(t, "fn f() {"+strings.Repeat("if a { } else {", 38)+"print -a; while a { }"+strings.Repeat("}", 39))
	typed := strings.Repeat("[", 39) + "A" + strings.Repeat("]", 39)
	program().wantStays(t, "rec A { a: "+typed+"; } fn f(a: "+typed+"): ["+typed+"] { var a: "+typed+" = nil; }")
}

// within is a text with so many in one another.
func within(count int, ahead, s, behind string) string {
	return strings.Repeat(ahead, count) + s + strings.Repeat(behind, count)
}

func nested(count int, b branch, in func(branch) branch) branch {
	for range count {
		b = in(b)
	}
	return b
}

func TestTooDeep(t *testing.T) { // P7.1, P7.2
	a, ints := name("a"), of(api.KListT, of(api.KIntT))
	for want, b := range map[string]branch{
		within(41, "-", "a", ""):                      nested(41, a, func(b branch) branch { return un(api.OpNeg, b) }),
		within(40, "!", "(a + a)", ""):                nested(40, bin(api.OpAdd, a, a), func(b branch) branch { return un(api.OpNot, b) }),
		within(40, "!", "a[0]", ""):                   nested(40, of(api.KIndex, a, whole(0)), func(b branch) branch { return un(api.OpNot, b) }),
		within(21, "(-", "a", ").b"):                  nested(21, a, func(b branch) branch { return dot(un(api.OpNeg, b), "b") }),
		within(41, "a[", "a", "]"):                    nested(41, a, func(b branch) branch { return of(api.KIndex, a, b) }),
		within(41, "a.b[", "a", "].c"):                nested(41, a, func(b branch) branch { return dot(of(api.KIndex, dot(a, "b"), b), "c") }),
		within(41, "f(", "a", ")"):                    nested(41, a, func(b branch) branch { return call("f", b) }),
		within(41, "f(a, ", "a", ")"):                 nested(41, a, func(b branch) branch { return call("f", a, b) }),
		within(41, "a - (", "a - a", ")"):             nested(42, a, func(b branch) branch { return bin(api.OpSub, a, b) }),
		within(41, "(", "a < a", ") < a"):             nested(42, a, func(b branch) branch { return bin(api.OpLt, b, a) }),
		within(21, "!(a || ", "a", ")"):               nested(21, a, func(b branch) branch { return un(api.OpNot, bin(api.OpOr, a, b)) }),
		within(41, "make [int](", "a", ")"):           nested(41, a, func(b branch) branch { return of(api.KMake, ints, b) }),
		"make " + within(42, "[", "int", "]") + "(a)": of(api.KMake, nested(41, ints, func(b branch) branch { return of(api.KListT, b) }), a),
	} {
		expression().wantText(t, b.row(), want)
		if _, fault := parse.Expr(want); fault.Code != api.ErrDeep {
			t.Errorf("%q is read: %v, want ErrDeep", want, fault)
		}
		wantDeepStatement(t, of(api.KPrint, b), "\tprint "+want+";\n")
	}
	for _, count := range []int{40, 100} {
		whiles := nested(count, of(api.KReturn), func(b branch) branch { return of(api.KWhile, a, block(b)) })
		wantDeepStatement(t, whiles, blocksText(count, "return;"))
	}
}

func wantDeepStatement(t *testing.T, b branch, want string) {
	t.Helper()
	want = "fn main() {\n" + want + "}\n"
	program().wantText(t, mainOf(b).row(), want)
	if _, fault := parse.Parse(want); fault.Code != api.ErrDeep {
		t.Errorf("%s is read: %v, want ErrDeep", shown(want), fault)
	}
}

// blocksText are the lines of so many whiles in one another, from one tab on, and of what stands in the innermost one.
func blocksText(count int, within string) string {
	var text strings.Builder
	line := func(tabs int, s string) { text.WriteString(strings.Repeat("\t", tabs) + s + "\n") }
	for tabs := range count {
		line(tabs+1, "while a {")
	}
	line(count+1, within)
	for tabs := count; tabs > 0; tabs-- {
		line(tabs, "}")
	}
	return text.String()
}

// around is a row in which each of so many nodes has the same children ahead of the next one and behind it.
func around(count int, n api.Node, ahead, within, behind []api.Node) []api.Node {
	var row []api.Node
	size := len(within)
	for range count {
		size += 1 + len(ahead) + len(behind)
	}
	for range count {
		size -= 1 + len(behind)
		n.Size = size + len(behind)
		row = append(append(row, n), ahead...)
		size -= len(ahead)
	}
	row = append(row, within...)
	for range count {
		row = append(row, behind...)
	}
	return row
}

func TestAsDeepAsTheyAreLong(t *testing.T) { // P7.1, P0.1
	const many = 1 << 16
	a, none := []api.Node{{Kind: api.KName, Text: "a"}}, []api.Node(nil)
	ints := []api.Node{{Kind: api.KListT, Size: 1}, {Kind: api.KIntT}}
	neg, sub, less := api.Node{Kind: api.KUn, Num: api.OpNeg}, api.Node{Kind: api.KBin, Num: api.OpSub}, api.Node{Kind: api.KBin, Num: api.OpLt}
	index, point, calls := api.Node{Kind: api.KIndex}, api.Node{Kind: api.KDot, Text: "b"}, api.Node{Kind: api.KCall, Text: "f"}
	for want, l := range map[string][]api.Node{
		within(many, "-", "a", ""):            around(many, neg, none, a, none),
		within(many, "", "a", " - a"):         around(many, sub, none, a, a),
		within(many, "a - (", "a - a", ")"):   around(many+1, sub, a, a, none),
		within(many, "(", "a < a", ") < a"):   around(many+1, less, none, a, a),
		within(many, "a[", "a", "]"):          around(many, index, a, a, none),
		within(many, "", "a", "[a]"):          around(many, index, none, a, a),
		within(many, "", "a", ".b"):           around(many, point, none, a, none),
		within(many, "f(a, ", "a", ", a)"):    around(many, calls, a, a, a),
		within(many, "make [int](", "a", ")"): around(many, api.Node{Kind: api.KMake}, ints, a, none),
	} {
		expression().wantText(t, l, want)
	}
	kind().wantText(t, around(many, api.Node{Kind: api.KListT}, none, []api.Node{{Kind: api.KBoolT}}, none), within(many, "[", "bool", "]"))
	const blocks = 2000
	l := []api.Node{{Kind: api.KReturn}}
	for range blocks {
		l = slices.Concat([]api.Node{{Kind: api.KWhile, Size: len(l) + 2}}, a, []api.Node{{Kind: api.KBlock, Size: len(l)}}, l)
	}
	program().wantText(t, mainWith(l), "fn f() {\n"+blocksText(blocks, "return;")+"}\n")
}

// wantLength asks for a text of so many bytes, which is read where it isn't too long.
func (f face) wantLength(t *testing.T, l []api.Node, want string) {
	t.Helper()
	f.wantText(t, l, want)
	back, fault := f.read(want)
	switch {
	case len(want) > api.MaxText && fault != (api.Fault{Code: api.ErrLong}):
		t.Errorf("%s of %d bytes is read: %v, want ErrLong", shown(want), len(want), fault)
	case len(want) <= api.MaxText && (fault != (api.Fault{}) || !tree.Same(back, l)):
		t.Errorf("%s of %d bytes is read as %s, %v", shown(want), len(want), shown(back), fault)
	}
}

func TestTooLong(t *testing.T) { // P7.1, P7.2
	a := name("a").row()
	for length := api.MaxText - 3; length <= api.MaxText+3; length++ {
		long := func(besides int) string { return strings.Repeat("a", length-besides) }
		expression().wantLength(t, name(long(0)).row(), long(0))
		expression().wantLength(t, call("f", name(long(len("f(, b)"))), name("b")).row(), "f("+long(len("f(, b)"))+", b)")
		expression().wantLength(t, of(api.KStr).text(long(len(`""`))).row(), `"`+long(len(`""`))+`"`)
		bytes := strings.Repeat("\xff", 1000) + long(len(`""`)+4*1000)
		expression().wantLength(t, of(api.KStr).text(bytes).row(), literal(bytes))
		first := name(long(4 * 5000)).row()
		expression().wantLength(t, around(5000, api.Node{Kind: api.KBin, Num: api.OpAdd}, nil, first, a), within(5000, "", first[0].Text, " + a"))
		fn := of(api.KFn, of(api.KNoneT), block()).text(long(len("fn () {\n}\n")))
		program().wantLength(t, of(api.KProg, fn).row(), "fn "+fn.node.Text+"() {\n}\n")
	}
}

// What is read from a text may be too long, if not too deep: blanks that weren't there are written.
func TestLongerThanWhatIsRead(t *testing.T) { // P7.1, P7.2
	const blocks, count = 30, 10000
	s := "fn f(){" + within(blocks, "while a{", strings.Repeat("f();", count), "}") + "}"
	l, fault := parse.Parse(s)
	if fault != (api.Fault{}) {
		t.Fatal(fault)
	}
	lines := strings.TrimSuffix(strings.Repeat("f();\n"+strings.Repeat("\t", blocks+1), count), "\n"+strings.Repeat("\t", blocks+1))
	program().wantLength(t, l, "fn f() {\n"+blocksText(blocks, lines)+"}\n")
	terms := "a" + strings.Repeat("+a", 30000)
	if l, fault = parse.Expr(terms); fault != (api.Fault{}) {
		t.Fatal(fault)
	}
	expression().wantLength(t, l, strings.ReplaceAll(terms, "+", " + "))
}

// TestHandedInStays hands in rows that have room behind their ends, which isn't to be written either.
func TestHandedInStays(t *testing.T) { // P0.3, P0.5
	whole, _ := parse.Parse("rec A { a: [int]; } fn f(a: int, b: str): A { if a { a = -(a + b)[1] * f(2i, \"x\"); } else { while a { } } return nil; }")
	expr, _ := parse.Expr("(a - (b - -c[0])).d == make [A](f(1, \"\n\"))")
	kinds := of(api.KListT, of(api.KListT, recType("A"))).row()
	rows := [][]api.Node{whole, expr, kinds, nil}
	for _, l := range append(rows, wrongRows()...) {
		room := append(slices.Clone(l), slices.Repeat([]api.Node{{Kind: 77, Line: 1, Col: 2, Size: 3, Num: 4, Text: "room"}}, 20)...)
		before := slices.Clone(room)
		for _, f := range faces() {
			once, err := f.write(room[:len(l)])
			twice, again := f.write(room[:len(l)])
			same, other := f.write(slices.Clip(slices.Clone(l)))
			if !slices.Equal(room, before) || once != twice || once != same || err != again || err != other {
				t.Errorf("%s(%s) changed what was handed in, or its answer: %q, %q, %q", f.name, shown(l), once, twice, same)
			}
		}
	}
	// Nor is anything kept: what is written into the row afterwards changes no answer.
	for i, l := range rows[:3] {
		f := faces()[i]
		got, _ := f.write(l)
		kept := strings.Clone(got)
		clear(l)
		if got != kept {
			t.Errorf("%s: %q became %q", f.name, kept, got)
		}
	}
}
