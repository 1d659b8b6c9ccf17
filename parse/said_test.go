package parse

import (
	"slices"
	"strings"

	"hindcast/api"
)

// grammar is the chapter's table, said apart from the program. Behind an expression that a statement begins with, NEVER stands for what never comes: so any expression goes on there, as far as it does.
const grammar = `
program -> decls END
alone -> expression END
decls -> | decls record | decls function
record -> rec GREAT { fields }
fields -> | fields NAME : type ;
function -> fn NAME ( params ) block | fn NAME ( params ) : type block
params -> | someparams
someparams -> NAME : type | someparams , NAME : type
type -> int | bool | str | comp | GREAT | [ type ]
block -> { statements }
statements -> | statements statement
statement -> var NAME : type = expression ; | if expression block | if expression block else block
statement -> while expression block | return ; | return expression ; | print expression ;
statement -> target = expression ; | call ; | expression NEVER
target -> NAME | postfix [ expression ] | postfix . NAME | ( target )
call -> NAME ( args ) | ( call )
args -> | someargs
someargs -> expression | someargs , expression
expression -> and | expression || and
and -> equal | and && equal
equal -> less | less == less | less != less
less -> sum | sum < sum | sum <= sum | sum > sum | sum >= sum
sum -> term | sum + term | sum - term
term -> unary | term * unary | term / unary | term % unary
unary -> postfix | - unary | ! unary
postfix -> atom | postfix [ expression ] | postfix . NAME
atom -> INT | COMP | STR | true | false | nil | NAME | NAME ( args ) | ( expression )
atom -> make GREAT ( ) | make [ type ] ( expression )
`

type rule struct {
	left  string
	right []string
}

// said is what is to be answered, by the grammar alone.
type said struct {
	rules    []rule
	of       map[string][]int // the rules of what is no token
	shortest map[string]int   // how many tokens it has at least
}

func newSaid() *said {
	d := &said{of: map[string][]int{}, shortest: map[string]int{}}
	for _, line := range strings.Split(strings.TrimSpace(grammar), "\n") {
		left, rest, _ := strings.Cut(line, " -> ")
		for _, right := range strings.Split(" "+rest+" ", " | ") {
			d.of[left] = append(d.of[left], len(d.rules))
			d.rules = append(d.rules, rule{left, strings.Fields(right)})
		}
	}
	for left := range d.of {
		d.shortest[left] = 1000
	}
	for range d.rules {
		for _, r := range d.rules {
			d.shortest[r.left] = min(d.shortest[r.left], d.size(r.right))
		}
	}
	return d
}

func (d *said) size(right []string) int {
	size := 0
	for _, symbol := range right {
		if d.of[symbol] == nil {
			size++
		}
		size += d.shortest[symbol]
	}
	return size
}

// item is a rule of which so much was met, from a token on.
type item struct{ rule, met, from int }

// chart has, ahead of each token, the items that may be so.
type chart struct {
	*said
	sets [][]item
}

func (d *said) newChart(start string) *chart {
	c := &chart{said: d}
	var first []item
	for _, r := range d.of[start] {
		first = append(first, item{r, 0, 0})
	}
	c.close(first)
	return c
}

func (c *chart) wanted(i item) string {
	if right := c.rules[i.rule].right; i.met < len(right) {
		return right[i.met]
	}
	return ""
}

// close adds what follows from a set's items.
func (c *chart) close(set []item) {
	now := len(c.sets)
	c.sets = append(c.sets, nil)
	add := func(i item) {
		if !slices.Contains(c.sets[now], i) {
			c.sets[now] = append(c.sets[now], i)
		}
	}
	for _, i := range set {
		add(i)
	}
	for k := 0; k < len(c.sets[now]); k++ {
		i := c.sets[now][k]
		next := c.wanted(i)
		for _, r := range c.of[next] {
			add(item{r, 0, now})
		}
		if c.of[next] != nil && c.shortest[next] == 0 {
			add(item{i.rule, i.met + 1, i.from})
		}
		if next == "" && i.from < now {
			for _, up := range c.sets[i.from] {
				if c.wanted(up) == c.rules[i.rule].left {
					add(item{up.rule, up.met + 1, up.from})
				}
			}
		}
	}
}

func (c *chart) goesOn(token string) bool {
	return slices.ContainsFunc(c.sets[len(c.sets)-1], func(i item) bool { return c.wanted(i) == token })
}

func (c *chart) push(token string) {
	var set []item
	for _, i := range c.sets[len(c.sets)-1] {
		if c.wanted(i) == token {
			set = append(set, item{i.rule, i.met + 1, i.from})
		}
	}
	c.close(set)
}

func (c *chart) pop() { c.sets = c.sets[:len(c.sets)-1] }

// symbol is how the grammar writes a token.
func symbol(t api.Token) string {
	switch t.Kind {
	case api.TokWord, api.TokSign:
		return t.Text
	}
	return []string{api.TokName: "NAME", api.TokBig: "GREAT", api.TokInt: "INT", api.TokComp: "COMP", api.TokStr: "STR", api.TokEnd: "END"}[t.Kind]
}

// depths has the brackets and unary signs that are open: a sign's operand ends where what is none of its tokens comes.
type depths struct {
	open []string
	last string
}

func endsOperand(token string) bool {
	return slices.Contains([]string{"NAME", "INT", "COMP", "STR", "true", "false", "nil", ")", "]"}, token)
}

// isDeep goes over a token, and tells whether it is an opening bracket or a unary sign, and as deep as none may be.
func (d *depths) isDeep(token string) bool {
	unary := token == "!" || token == "-" && !endsOperand(d.last)
	opening := token == "(" || token == "[" || token == "{"
	// Behind a sign only another one, or what may stand in an operand, leaves it open.
	if !unary && !slices.Contains([]string{"NAME", "GREAT", "INT", "COMP", "STR", "true", "false", "nil", "make", "(", "[", "."}, token) {
		for len(d.open) > 0 && d.open[len(d.open)-1] == "unary" {
			d.open = d.open[:len(d.open)-1]
		}
	}
	deep := (unary || opening) && len(d.open) >= 40
	switch {
	case unary:
		d.open = append(d.open, "unary")
	case opening:
		d.open = append(d.open, token)
	case token == ")" || token == "]" || token == "}":
		d.open = d.open[:len(d.open)-1]
	}
	d.last = token
	return deep
}

// fault is that of a text's tokens, the end with them.
func (d *said) fault(start string, tokens []api.Token) api.Fault {
	c, deep := d.newChart(start), depths{}
	for _, t := range tokens {
		if !c.goesOn(symbol(t)) {
			return api.Fault{Code: api.ErrParse, Line: t.Line, Col: t.Col}
		}
		if deep.isDeep(symbol(t)) {
			return api.Fault{Code: api.ErrDeep, Line: t.Line, Col: t.Col}
		}
		c.push(symbol(t))
	}
	return api.Fault{}
}

// branch is a node with its children.
type branch struct {
	node api.Node
	kids []branch
}

func at(line, col int, kind uint8, kids ...branch) branch {
	return branch{api.Node{Kind: kind, Line: line, Col: col}, kids}
}

func of(t api.Token, kind uint8, kids ...branch) branch { return at(t.Line, t.Col, kind, kids...) }

func (b branch) text(s string) branch {
	b.node.Text = s
	return b
}

func (b branch) num(n int64) branch {
	b.node.Num = n
	return b
}

func (b branch) row() []api.Node {
	row := []api.Node{b.node}
	for _, kid := range b.kids {
		row = append(row, kid.row()...)
	}
	row[0].Size = len(row) - 1
	return row
}

// outside are the places of the tokens that stand in no bracket of this row.
func outside(l []api.Token, is func(at int, symbol string) bool) []int {
	var places []int
	open := 0
	for i, t := range l {
		switch s := symbol(t); s {
		case ")", "]", "}":
			open--
		default:
			if open == 0 && is(i, s) {
				places = append(places, i)
			}
			if s == "(" || s == "[" || s == "{" {
				open++
			}
		}
	}
	return places
}

func firstOutside(l []api.Token, wanted string) int {
	places := outside(l, func(_ int, s string) bool { return s == wanted })
	return append(places, -1)[0]
}

// closing is the place of the bracket that closes the first one.
func closing(l []api.Token) int {
	open := 0
	for i, t := range l {
		switch symbol(t) {
		case "(", "[", "{":
			open++
		case ")", "]", "}":
			open--
		}
		if open == 0 {
			return i
		}
	}
	panic("no bracket closes")
}

// cut are the pieces of a row between its commas.
func cut(l []api.Token) [][]api.Token {
	var pieces [][]api.Token
	for len(l) > 0 {
		comma := firstOutside(l, ",")
		if comma < 0 {
			return append(pieces, l)
		}
		pieces = append(pieces, l[:comma])
		l = l[comma+1:]
	}
	return pieces
}

func levels() [][]string {
	return [][]string{{"||"}, {"&&"}, {"==", "!="}, {"<", "<=", ">", ">="}, {"+", "-"}, {"*", "/", "%"}}
}

func operations() map[string]int64 {
	return map[string]int64{"+": api.OpAdd, "-": api.OpSub, "*": api.OpMul, "/": api.OpDiv, "%": api.OpRem, "==": api.OpEq, "!=": api.OpNe, "<": api.OpLt, "<=": api.OpLe, ">": api.OpGt, ">=": api.OpGe, "&&": api.OpAnd, "||": api.OpOr}
}

// saidExpr is the tree of an expression that is right: it is cut in two at the last sign of the lowest level.
func saidExpr(l []api.Token) branch {
	for _, signs := range levels() {
		places := outside(l, func(i int, s string) bool {
			return i > 0 && endsOperand(symbol(l[i-1])) && slices.Contains(signs, s)
		})
		if len(places) > 0 {
			i := places[len(places)-1]
			return of(l[i], api.KBin, saidExpr(l[:i]), saidExpr(l[i+1:])).num(operations()[l[i].Text])
		}
	}
	switch symbol(l[0]) {
	case "-":
		return of(l[0], api.KUn, saidExpr(l[1:])).num(api.OpNeg)
	case "!":
		return of(l[0], api.KUn, saidExpr(l[1:])).num(api.OpNot)
	}
	return saidPostfix(l)
}

func saidPostfix(l []api.Token) branch {
	last := len(l) - 1
	if symbol(l[last]) == "]" {
		brackets := outside(l, func(_ int, s string) bool { return s == "[" })
		i := brackets[len(brackets)-1]
		return of(l[i], api.KIndex, saidExpr(l[:i]), saidExpr(l[i+1:last]))
	}
	if last > 0 && symbol(l[last-1]) == "." {
		return of(l[last-1], api.KDot, saidExpr(l[:last-1])).text(l[last].Text)
	}
	return saidAtom(l)
}

func saidAtom(l []api.Token) branch {
	first := l[0]
	switch symbol(first) {
	case "INT":
		return of(first, api.KInt).num(first.Num)
	case "COMP":
		return of(first, api.KComp).num(first.Num)
	case "STR":
		return of(first, api.KStr).text(first.Text)
	case "true":
		return of(first, api.KBool).num(1)
	case "false":
		return of(first, api.KBool)
	case "nil":
		return of(first, api.KNil)
	case "(":
		return saidExpr(l[1 : len(l)-1])
	case "make":
		return saidMake(l)
	}
	if len(l) == 1 {
		return of(first, api.KName).text(first.Text)
	}
	var args []branch
	for _, arg := range cut(l[2 : len(l)-1]) {
		args = append(args, saidExpr(arg))
	}
	return of(first, api.KCall, args...).text(first.Text)
}

func saidMake(l []api.Token) branch {
	i := firstOutside(l, "(")
	kids := []branch{saidType(l[1:i])}
	if i+2 < len(l) {
		kids = append(kids, saidExpr(l[i+1:len(l)-1]))
	}
	return of(l[0], api.KMake, kids...)
}

func saidType(l []api.Token) branch {
	switch symbol(l[0]) {
	case "[":
		return of(l[0], api.KListT, saidType(l[1:len(l)-1]))
	case "GREAT":
		return of(l[0], api.KRecT).text(l[0].Text)
	}
	return of(l[0], map[string]uint8{"int": api.KIntT, "bool": api.KBoolT, "str": api.KStrT, "comp": api.KCompT}[l[0].Text])
}

func saidTyped(kind uint8, l []api.Token) branch {
	return of(l[0], kind, saidType(l[2:])).text(l[0].Text)
}

// saidStatement is the tree of the first statement, and what stands behind it.
func saidStatement(l []api.Token) (branch, []api.Token) {
	first := l[0]
	if word := symbol(first); word == "if" || word == "while" {
		i := firstOutside(l, "{")
		j := i + closing(l[i:])
		kids := []branch{saidExpr(l[1:i]), saidBlock(l[i : j+1])}
		if word == "while" {
			return of(first, api.KWhile, kids...), l[j+1:]
		}
		if j+1 < len(l) && symbol(l[j+1]) == "else" {
			i, j = j+2, j+2+closing(l[j+2:])
			kids = append(kids, saidBlock(l[i:j+1]))
		}
		return of(first, api.KIf, kids...), l[j+1:]
	}
	end := firstOutside(l, ";")
	l, rest := l[:end], l[end+1:]
	set := firstOutside(l, "=")
	switch symbol(first) {
	case "var":
		return of(first, api.KVar, saidType(l[3:set]), saidExpr(l[set+1:])).text(l[1].Text), rest
	case "print":
		return of(first, api.KPrint, saidExpr(l[1:])), rest
	case "return":
		if len(l) == 1 {
			return of(first, api.KReturn), rest
		}
		return of(first, api.KReturn, saidExpr(l[1:])), rest
	}
	if set < 0 {
		return of(first, api.KDo, saidExpr(l)), rest
	}
	return of(first, api.KSet, saidExpr(l[:set]), saidExpr(l[set+1:])), rest
}

func saidBlock(l []api.Token) branch {
	block := of(l[0], api.KBlock)
	for rest := l[1 : len(l)-1]; len(rest) > 0; {
		var b branch
		b, rest = saidStatement(rest)
		block.kids = append(block.kids, b)
	}
	return block
}

func saidRecord(l []api.Token) branch {
	record := of(l[0], api.KRec).text(l[1].Text)
	for rest := l[3 : len(l)-1]; len(rest) > 0; {
		end := firstOutside(rest, ";")
		record.kids = append(record.kids, saidTyped(api.KField, rest[:end]))
		rest = rest[end+1:]
	}
	return record
}

func saidFunction(l []api.Token) branch {
	function := of(l[0], api.KFn).text(l[1].Text)
	shut, block := 2+closing(l[2:]), firstOutside(l, "{")
	params := cut(l[3:shut])
	for _, param := range params {
		function.kids = append(function.kids, saidTyped(api.KParam, param))
	}
	result := at(0, 0, api.KNoneT)
	if shut+1 < block {
		result = saidType(l[shut+2 : block])
	}
	function.kids = append(function.kids, result, saidBlock(l[block:]))
	return function.num(int64(len(params)))
}

// saidProgram is the tree of a program that is right; saidExpr that of an expression.
func saidProgram(l []api.Token) branch {
	program := at(1, 1, api.KProg)
	for len(l) > 0 {
		i := firstOutside(l, "{")
		end := i + closing(l[i:]) + 1
		if symbol(l[0]) == "rec" {
			program.kids = append(program.kids, saidRecord(l[:end]))
		} else {
			program.kids = append(program.kids, saidFunction(l[:end]))
		}
		l = l[end:]
	}
	return program
}

// dice are thrown the same way each time.
type dice struct{ x uint64 }

func (d *dice) below(count int) int {
	d.x ^= d.x << 13
	d.x ^= d.x >> 7
	d.x ^= d.x << 17
	return int((d.x >> 20) % uint64(count))
}

// grown are the tokens of something that the grammar has, as symbols: about so many.
func (d *said) grown(by *dice, start string, room int) []string {
	if d.of[start] == nil {
		return []string{start}
	}
	var l []string
	right := d.chosen(by, start, room)
	room -= d.size(right)
	for i, s := range right {
		share := max(0, room)
		if i+1 < len(right) {
			share = by.below(share + 1)
		}
		more := d.grown(by, s, d.shortest[s]+share)
		room -= max(0, len(more)-max(1, d.shortest[s]))
		l = append(l, more...)
	}
	return l
}

// chosen is one of the rules for which there is room: two times of three one that hands all the room on, or has use for it.
func (d *said) chosen(by *dice, start string, room int) []string {
	var may, better [][]string
	for _, r := range d.of[start] {
		right := d.rules[r].right
		if slices.Contains(right, "NEVER") || d.size(right) > max(room, d.shortest[start]) {
			continue
		}
		may = append(may, right)
		isHandedOn := len(right) == 1 && d.of[right[0]] != nil
		if isHandedOn || d.shortest[start] == 0 && len(right) > 0 || start == "atom" && len(right) > 1 {
			better = append(better, right)
		}
	}
	if len(better) > 0 && by.below(3) > 0 {
		may = better
	}
	return may[by.below(len(may))]
}
