package pretty

import (
	"fmt"
	"slices"
	"strings"

	"hindcast/api"
	"hindcast/lex"
	"hindcast/tree"
)

// branch is a node with its children.
type branch struct {
	node api.Node
	kids []branch
}

func of(kind uint8, kids ...branch) branch { return branch{api.Node{Kind: kind}, kids} }

func (b branch) text(s string) branch {
	b.node.Text = s
	return b
}

func (b branch) num(n int64) branch {
	b.node.Num = n
	return b
}

func (b branch) row() []api.Node {
	row := []api.Node{b.node}
	for _, kid := range b.kids {
		row = append(row, kid.row()...)
	}
	row[0].Size = len(row) - 1
	return row
}

func endsOperand(t api.Token) bool {
	switch t.Kind {
	case api.TokName, api.TokInt, api.TokComp, api.TokStr:
		return true
	}
	return slices.Contains([]string{"true", "false", "nil", ")", "]"}, t.Text)
}

// levels are the signs of two operands, from the lowest level on.
func levels() [][]string {
	return [][]string{{"||"}, {"&&"}, {"==", "!="}, {"<", "<=", ">", ">="}, {"+", "-"}, {"*", "/", "%"}}
}

func levelOf(sign string) int {
	return slices.IndexFunc(levels(), func(l []string) bool { return slices.Contains(l, sign) })
}

func operations() map[string]int64 {
	return map[string]int64{"+": api.OpAdd, "-": api.OpSub, "*": api.OpMul, "/": api.OpDiv, "%": api.OpRem, "==": api.OpEq, "!=": api.OpNe, "<": api.OpLt, "<=": api.OpLe, ">": api.OpGt, ">=": api.OpGe, "&&": api.OpAnd, "||": api.OpOr}
}

func signOf(op int64) string {
	for sign, o := range operations() {
		if o == op {
			return sign
		}
	}
	return map[int64]string{api.OpNeg: "-", api.OpNot: "!"}[op]
}

// literal is a text as layer 3 writes it, said apart from it.
func literal(s string) string {
	var text strings.Builder
	for _, b := range []byte(s) {
		switch {
		case b == '"' || b == '\\':
			text.WriteString("\\" + string(rune(b)))
		case b == '\n':
			text.WriteString("\\n")
		case b == '\t':
			text.WriteString("\\t")
		case b < 32 || b > 126:
			fmt.Fprintf(&text, "\\x%02x", b)
		default:
			text.WriteByte(b)
		}
	}
	return `"` + text.String() + `"`
}

func spelling(t api.Token) string {
	switch t.Kind {
	case api.TokInt:
		return fmt.Sprint(t.Num)
	case api.TokComp:
		return fmt.Sprint(t.Num) + "i"
	case api.TokStr:
		return literal(t.Text)
	}
	return t.Text
}

func isSign(t api.Token, signs ...string) bool {
	return t.Kind == api.TokSign && slices.Contains(signs, t.Text)
}

func isWord(t api.Token, words ...string) bool {
	return t.Kind == api.TokWord && slices.Contains(words, t.Text)
}

// hasBlank tells whether a blank stands between two tokens of a line, by the chapter's words: was says whether the first one is a sign between two operands, is whether the second one is.
func hasBlank(first, second api.Token, was, is bool) bool {
	switch {
	case was || is || isSign(first, "=", ",", ":") || isSign(second, "=", "{"):
		return true
	case isWord(first, "return"):
		return !isSign(second, ";")
	}
	return isWord(first, "rec", "fn", "var", "if", "else", "while", "print", "make") || isWord(second, "else")
}

// laidOut is how the tokens of a text stand in lines, said by the tokens alone.
func laidOut(l []api.Token) string {
	var text strings.Builder
	tabs, was := 0, false
	for i, t := range l {
		is := i > 0 && isSign(t, slices.Concat(levels()...)...) && endsOperand(l[i-1])
		if isSign(t, "}") {
			tabs--
		}
		if i > 0 {
			last := l[i-1]
			switch {
			case isSign(last, "{", ";") || isSign(t, "}") || isSign(last, "}") && !isWord(t, "else"):
				text.WriteString("\n" + strings.Repeat("\t", tabs))
			case hasBlank(last, t, was, is):
				text.WriteString(" ")
			}
		}
		text.WriteString(spelling(t))
		if isSign(t, "{") {
			tabs++
		}
		was = is
	}
	if len(l) > 0 && isSign(l[len(l)-1], "}") {
		text.WriteString("\n")
	}
	return text.String()
}

func offset(s string, t api.Token) int {
	at := 0
	for range t.Line - 1 {
		at += strings.Index(s[at:], "\n") + 1
	}
	return at + t.Col - 1
}

// withoutBrackets are a text's shorter ones: each has one pair less of round brackets, of those that stand about an operand.
func withoutBrackets(s string) []string {
	var shorter []string
	l, _ := lex.Tokens(s)
	var open []int
	for i, t := range l {
		switch {
		case isSign(t, "("):
			open = append(open, i)
		case isSign(t, ")"):
			i = open[len(open)-1]
			open = open[:len(open)-1]
			if i > 0 && (l[i-1].Kind == api.TokName || l[i-1].Kind == api.TokBig || isSign(l[i-1], "]")) {
				continue
			}
			b := []byte(s)
			b[offset(s, l[i])], b[offset(s, t)] = ' ', ' '
			shorter = append(shorter, string(b))
		}
	}
	return shorter
}

// form is what may stand somewhere: a node, if its Kind isn't 0, with parts beneath it, or parts alone.
type form struct {
	node  api.Node
	parts []string
}

func nodeForm(kind uint8, text string, parts ...string) form {
	return form{api.Node{Kind: kind, Text: text}, parts}
}

func operationForm(kind uint8, op int64, parts ...string) form {
	return form{api.Node{Kind: kind, Num: op}, parts}
}

// anyForms are any number of one thing.
func anyForms(what string) []form {
	return []form{{}, {parts: []string{what, what + "s"}}}
}

// forms is chapter 5's table, said apart from the program.
func forms() map[string][]form {
	m := map[string][]form{
		"program":   {nodeForm(api.KProg, "", "decls")},
		"decls":     anyForms("decl"),
		"decl":      {nodeForm(api.KRec, "A", "fields"), nodeForm(api.KFn, "f", "result", "block")},
		"fields":    anyForms("field"),
		"field":     {nodeForm(api.KField, "a", "type")},
		"param":     {nodeForm(api.KParam, "a", "type")},
		"result":    {nodeForm(api.KNoneT, ""), {parts: []string{"type"}}},
		"block":     {nodeForm(api.KBlock, "", "statements")},
		"statement": {nodeForm(api.KVar, "a", "type", "expr"), nodeForm(api.KSet, "", "target", "expr"), nodeForm(api.KIf, "", "expr", "block"), nodeForm(api.KIf, "", "expr", "block", "block"), nodeForm(api.KWhile, "", "expr", "block"), nodeForm(api.KReturn, ""), nodeForm(api.KReturn, "", "expr"), nodeForm(api.KPrint, "", "expr"), nodeForm(api.KDo, "", "call")},
		"type":      {nodeForm(api.KIntT, ""), nodeForm(api.KBoolT, ""), nodeForm(api.KStrT, ""), nodeForm(api.KCompT, ""), {parts: []string{"great"}}, {parts: []string{"list"}}},
		"great":     {nodeForm(api.KRecT, "A")},
		"list":      {nodeForm(api.KListT, "", "type")},
		"target":    {nodeForm(api.KName, "a"), nodeForm(api.KIndex, "", "expr", "expr"), nodeForm(api.KDot, "a", "expr")},
		"call":      {nodeForm(api.KCall, "f", "exprs")},
		"exprs":     anyForms("expr"),
		"expr":      {nodeForm(api.KInt, ""), nodeForm(api.KComp, ""), nodeForm(api.KStr, ""), nodeForm(api.KBool, ""), operationForm(api.KBool, 1), nodeForm(api.KNil, ""), {parts: []string{"target"}}, {parts: []string{"call"}}, operationForm(api.KUn, api.OpNeg, "expr"), operationForm(api.KUn, api.OpNot, "expr"), nodeForm(api.KMake, "", "great"), nodeForm(api.KMake, "", "list", "expr")},
	}
	m["statements"] = anyForms("statement")
	for n := int64(1); n <= 4; n++ {
		f := nodeForm(api.KFn, "f", append(slices.Repeat([]string{"param"}, int(n)), "result", "block")...)
		f.node.Num = n
		m["decl"] = append(m["decl"], f)
	}
	for op := int64(api.OpAdd); op <= api.OpGe; op++ {
		m["expr"] = append(m["expr"], operationForm(api.KBin, op, "expr", "expr"))
	}
	m["expr"] = append(m["expr"], operationForm(api.KBin, api.OpAnd, "expr", "expr"), operationForm(api.KBin, api.OpOr, "expr", "expr"))
	return m
}

// fewForms are those with which operands meet: fewer, so that longer rows may be gone through.
func fewForms() map[string][]form {
	l := []form{nodeForm(api.KName, "a"), nodeForm(api.KIndex, "", "expr", "expr"), nodeForm(api.KDot, "a", "expr"), operationForm(api.KUn, api.OpNeg, "expr"), operationForm(api.KUn, api.OpNot, "expr")}
	for _, op := range []int64{api.OpOr, api.OpAnd, api.OpEq, api.OpNe, api.OpLt, api.OpGe, api.OpAdd, api.OpSub, api.OpMul, api.OpRem} {
		l = append(l, operationForm(api.KBin, op, "expr", "expr"))
	}
	return map[string][]form{"expr": l}
}

type rowsKey struct {
	what string
	size int
}

// shelf has all rows of forms that were asked for.
type shelf struct {
	forms map[string][]form
	rows  map[rowsKey][][]api.Node
}

func newShelf(m map[string][]form) *shelf { return &shelf{m, map[rowsKey][][]api.Node{}} }

// all are the rows of so many nodes that may be.
func (s *shelf) all(what string, size int) [][]api.Node {
	key := rowsKey{what, size}
	if rows, ok := s.rows[key]; ok {
		return rows
	}
	var rows [][]api.Node
	for _, f := range s.forms[what] {
		if f.node.Kind == 0 {
			rows = append(rows, s.together(f.parts, size)...)
			continue
		}
		for _, kids := range s.together(f.parts, size-1) {
			row := append([]api.Node{f.node}, kids...)
			row[0].Size = size - 1
			rows = append(rows, row)
		}
	}
	s.rows[key] = rows
	return rows
}

// together are the rows of parts one behind the other.
func (s *shelf) together(parts []string, size int) [][]api.Node {
	if len(parts) == 0 && size == 0 {
		return [][]api.Node{nil}
	}
	if len(parts) == 0 || size < 0 {
		return nil
	}
	var rows [][]api.Node
	for first := range size + 1 {
		for _, a := range s.all(parts[0], first) {
			for _, b := range s.together(parts[1:], size-first) {
				rows = append(rows, slices.Concat(a, b))
			}
		}
	}
	return rows
}

// dice are thrown the same way each time.
type dice struct{ x uint64 }

func (d *dice) below(count int) int {
	d.x ^= d.x << 13
	d.x ^= d.x >> 7
	d.x ^= d.x << 17
	return int((d.x >> 20) % uint64(count))
}

// garden grows rows of forms.
type garden struct {
	*dice
	forms map[string][]form
	least map[string]int // how many nodes it has at least
}

func newGarden(seed uint64) *garden {
	g := &garden{&dice{seed}, forms(), map[string]int{}}
	for what := range g.forms {
		g.least[what] = 1000
	}
	for range g.forms {
		for what, l := range g.forms {
			for _, f := range l {
				g.least[what] = min(g.least[what], g.size(f))
			}
		}
	}
	return g
}

func (g *garden) size(f form) int {
	size := 0
	if f.node.Kind != 0 {
		size++
	}
	for _, part := range f.parts {
		size += g.least[part]
	}
	return size
}

// grown is a row of about so many nodes.
func (g *garden) grown(what string, room int) []api.Node {
	var may []form
	for _, f := range g.forms[what] {
		// Where there is room, it is used.
		if g.size(f) <= max(room, g.least[what]) && (len(f.parts) > 0 || room < 4 || g.below(3) == 0) {
			may = append(may, f)
		}
	}
	if len(may) == 0 {
		return g.grown(what, g.least[what])
	}
	f := may[g.below(len(may))]
	var row []api.Node
	if f.node.Kind != 0 {
		row = append(row, g.dressed(f.node))
	}
	room -= g.size(f)
	for i, part := range f.parts {
		share := max(0, room)
		if i+1 < len(f.parts) {
			share = g.below(share + 1)
		}
		kid := g.grown(part, g.least[part]+share)
		room -= len(kid) - g.least[part]
		row = append(row, kid...)
	}
	if f.node.Kind != 0 {
		row[0].Size = len(row) - 1
	}
	return row
}

// dressed is a node with other names, numbers, bytes and places, that may be there, too.
func (g *garden) dressed(n api.Node) api.Node {
	n.Line, n.Col = g.below(100)-10, g.below(100)-10
	switch n.Kind {
	case api.KRec, api.KRecT:
		n.Text = []string{"A", "Int", "Q_1", "ZZ9"}[g.below(4)]
	case api.KField, api.KParam, api.KFn, api.KVar, api.KName, api.KCall, api.KDot:
		n.Text = []string{"a", "b2", "_", "iff", "len", "i", "aVeryLongName_0", "make_", "nil0"}[g.below(9)]
	case api.KInt:
		n.Num = []int64{0, 7, 10, 1 << 32, 1<<63 - 1}[g.below(5)]
	case api.KComp:
		n.Num = []int64{0, 3, api.MaxGauss - 1}[g.below(3)]
	case api.KStr:
		b := make([]byte, g.below(6))
		for i := range b {
			b[i] = byte(g.below(256))
		}
		n.Text = string(b)
	}
	return n
}

// loose are a tree's tokens, with brackets about each operand and some about other expressions, and with blanks and notes between.
func (g *garden) loose(l []api.Node) string {
	n := l[0]
	var kids []string
	for _, at := range tree.Kids(l, 0) {
		kids = append(kids, g.loose(l[at:at+1+l[at].Size]))
	}
	s := g.looseText(n, kids)
	if n.Kind >= api.KInt {
		more := []int{0, 0, 1, 2}[g.below(4)]
		if n.Kind == api.KUn || n.Kind == api.KBin {
			more = max(1, more)
		}
		s = strings.Repeat("("+g.gap(), more) + s + strings.Repeat(")"+g.gap(), more)
	}
	return s
}

func (g *garden) gap() string {
	return []string{" ", " ", "\n", "\t", "  ", "\r\n", " # note ; }\n"}[g.below(7)]
}

func (g *garden) looseText(n api.Node, kids []string) string {
	if n.Kind == api.KNoneT {
		return ""
	}
	var l []string
	listed := strings.Join(kids, ",")
	switch n.Kind {
	case api.KProg:
		l = kids
	case api.KRec:
		l = append([]string{"rec", n.Text, "{"}, append(kids, "}")...)
	case api.KField:
		l = []string{n.Text, ":", kids[0], ";"}
	case api.KParam:
		l = []string{n.Text, ":", kids[0]}
	case api.KFn:
		l = []string{"fn", n.Text, "(", strings.Join(kids[:n.Num], ","), ")"}
		if result := kids[n.Num]; result != "" {
			l = append(l, ":", result)
		}
		l = append(l, kids[n.Num+1])
	case api.KBlock:
		l = append([]string{"{"}, append(kids, "}")...)
	case api.KVar:
		l = []string{"var", n.Text, ":", kids[0], "=", kids[1], ";"}
	case api.KSet:
		l = []string{kids[0], "=", kids[1], ";"}
	case api.KIf:
		l = append([]string{"if"}, kids[:2]...)
		if len(kids) == 3 {
			l = append(l, "else", kids[2])
		}
	case api.KWhile:
		l = append([]string{"while"}, kids...)
	case api.KReturn:
		l = append([]string{"return"}, append(kids, ";")...)
	case api.KPrint:
		l = []string{"print", kids[0], ";"}
	case api.KDo:
		l = []string{kids[0], ";"}
	case api.KListT:
		l = []string{"[", kids[0], "]"}
	case api.KCall:
		l = []string{n.Text, "(", listed, ")"}
	case api.KIndex:
		l = []string{kids[0], "[", kids[1], "]"}
	case api.KDot:
		l = []string{kids[0], ".", n.Text}
	case api.KUn:
		l = []string{signOf(n.Num), kids[0]}
	case api.KBin:
		l = []string{kids[0], signOf(n.Num), kids[1]}
	case api.KMake:
		l = append([]string{"make", kids[0], "("}, append(kids[1:], ")")...)
	default:
		l = []string{oneToken(n)}
	}
	var text strings.Builder
	for _, s := range l {
		text.WriteString(s + g.gap())
	}
	return text.String()
}

// oneToken is a node's token, of those that have one alone.
func oneToken(n api.Node) string {
	switch n.Kind {
	case api.KInt:
		return fmt.Sprint(n.Num)
	case api.KComp:
		return fmt.Sprint(n.Num) + "i"
	case api.KStr:
		return literal(n.Text)
	case api.KBool:
		return []string{"false", "true"}[n.Num]
	case api.KRecT, api.KName:
		return n.Text
	}
	return map[uint8]string{api.KIntT: "int", api.KBoolT: "bool", api.KStrT: "str", api.KCompT: "comp", api.KNil: "nil"}[n.Kind]
}
