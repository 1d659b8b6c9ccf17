package check_test

import (
	"slices"
	"strings"

	"hindcast/api"
)

// branch is a tree that is put together: a node with its children.
type branch struct {
	n    api.Node
	kids []branch
}

func of(kind uint8, kids ...branch) branch { return branch{api.Node{Kind: kind}, kids} }

func (b branch) text(s string) branch {
	b.n.Text = s
	return b
}

func (b branch) num(n int64) branch {
	b.n.Num = n
	return b
}

// row is the tree's row of nodes, each at a place of its own.
func (b branch) row() []api.Node {
	l := b.appended(nil)
	for at := range l {
		l[at].Line, l[at].Col = 7*at-50, -at
	}
	return l
}

func (b branch) appended(l []api.Node) []api.Node {
	at := len(l)
	l = append(l, b.n)
	for _, kid := range b.kids {
		l = kid.appended(l)
	}
	l[at].Size = len(l) - at - 1
	return l
}

// dice are thrown the same way each time.
type dice struct{ x uint64 }

func (d *dice) below(count int) int {
	d.x ^= d.x << 13
	d.x ^= d.x >> 7
	d.x ^= d.x << 17
	return int((d.x >> 20) % uint64(count))
}

func (d *dice) one(of ...string) string { return of[d.below(len(of))] }

// typed is a name with a type, as a text; of a function its result.
type typed struct {
	name, is string
	params   []typed
}

// grower makes programs' trees whose types are right, but for one in so many (wrong; never, if 0).
type grower struct {
	d     *dice
	wrong int
	recs  []typed // their fields are their params
	fns   []typed
	seen  []typed
	is    string // the function's result
}

func (g *grower) isWrong() bool { return g.wrong > 0 && g.d.below(g.wrong) == 0 }

func (g *grower) anyType(depth int) string {
	switch pick := g.d.below(10); {
	case pick < 3 && depth > 0:
		return "[" + g.anyType(depth-1) + "]"
	case pick < 6 && len(g.recs) > 0:
		return g.recs[g.d.below(len(g.recs))].name
	}
	return g.d.one("int", "int", "bool", "str", "comp")
}

// typeTree is a type's tree.
func typeTree(is string) branch {
	switch {
	case isList(is):
		return of(api.KListT, typeTree(is[1:len(is)-1]))
	case isRec(is):
		return of(api.KRecT).text(is)
	}
	return of(map[string]uint8{"none": api.KNoneT, "int": api.KIntT, "bool": api.KBoolT, "str": api.KStrT, "comp": api.KCompT}[is])
}

// names are so many typed names.
func (g *grower) names(all ...string) []typed {
	var l []typed
	for _, name := range all[:g.d.below(len(all)+1)] {
		l = append(l, typed{name: name, is: g.anyType(2)})
	}
	return l
}

func (g *grower) program() []api.Node {
	g.recs, g.fns = nil, []typed{{name: "main", is: "none"}}
	for _, name := range []string{"A", "B", "C"}[:g.d.below(4)] {
		g.recs = append(g.recs, typed{name: name})
	}
	for i := range g.recs {
		g.recs[i].params = g.names("x", "y", "z", "a", "main")
	}
	for _, name := range []string{"f", "g", "h", "a"}[:g.d.below(5)] {
		fn := typed{name: name, is: g.d.one("none", g.anyType(1), g.anyType(2)), params: g.names("a", "b", "x", "f")}
		g.fns = slices.Insert(g.fns, g.d.below(len(g.fns)+1), fn)
	}
	b := of(api.KProg)
	for _, rec := range g.recs {
		r := of(api.KRec).text(rec.name)
		for _, field := range rec.params {
			r.kids = append(r.kids, of(api.KField, typeTree(field.is)).text(field.name))
		}
		b.kids = append(b.kids, r)
	}
	for _, fn := range g.fns {
		b.kids = slices.Insert(b.kids, g.d.below(len(b.kids)+1), g.function(fn))
	}
	// Functions may stand in any order then, but are right all the same.
	return b.row()
}

func (g *grower) function(fn typed) branch {
	b := of(api.KFn).text(fn.name).num(int64(len(fn.params)))
	for _, param := range fn.params {
		b.kids = append(b.kids, of(api.KParam, typeTree(param.is)).text(param.name))
	}
	g.is, g.seen = fn.is, slices.Clone(fn.params)
	block := g.block(3, len(g.seen), fn.is != "none" && !g.isWrong())
	b.kids = append(b.kids, typeTree(fn.is), block)
	return b
}

// block is a block, of which so many of the names that are seen are its own; it may have to end.
func (g *grower) block(depth, own int, ends bool) branch {
	b, seen := of(api.KBlock), slices.Clone(g.seen)
	from := len(g.seen) - own
	for range g.d.below(6) {
		b.kids = append(b.kids, g.statement(depth, from))
	}
	if ends {
		b.kids = append(b.kids, g.ending(depth))
	}
	g.seen = seen
	return b
}

// ending is a statement with which a block ends.
func (g *grower) ending(depth int) branch {
	if depth > 0 && g.d.below(3) == 0 {
		return of(api.KIf, g.expression("bool", 2), g.block(depth-1, 0, !g.isWrong()), g.block(depth-1, 0, !g.isWrong()))
	}
	return g.returning()
}

func (g *grower) returning() branch {
	if g.is == "none" != g.isWrong() {
		return of(api.KReturn)
	}
	return of(api.KReturn, g.expression(g.is, 3))
}

func (g *grower) statement(depth, from int) branch {
	pick := g.d.below(10)
	if depth == 0 {
		pick %= 7
	}
	switch pick {
	case 0, 1, 2:
		return g.variable(from)
	case 3:
		is := g.anyType(1)
		return of(api.KSet, g.target(is), g.expression(is, 3))
	case 4:
		return of(api.KPrint, g.expression(g.d.one(g.anyType(2), "nil"), 3))
	case 5:
		return of(api.KDo, g.anyCall(3))
	case 6:
		return g.returning()
	case 7:
		return of(api.KWhile, g.expression("bool", 3), g.block(depth-1, 0, false))
	case 8:
		return of(api.KIf, g.expression("bool", 3), g.block(depth-1, 0, false))
	}
	return of(api.KIf, g.expression("bool", 3), g.block(depth-1, 0, false), g.block(depth-1, 0, g.d.below(2) == 0))
}

// variable has a name that its block has not; names that stand ahead of the block may be hidden.
func (g *grower) variable(from int) branch {
	own := g.seen[from:]
	for _, name := range []string{g.d.one("a", "b", "c", "d"), "v", "w", "k", "l", "m", "n", "o", "p", "q", "r"} {
		if slices.ContainsFunc(own, func(v typed) bool { return v.name == name }) {
			continue
		}
		is := g.anyType(2)
		b := of(api.KVar, typeTree(is), g.expression(is, 3)).text(name)
		g.seen = append(g.seen, typed{name: name, is: is})
		return b
	}
	return of(api.KDo, g.anyCall(1))
}

// target is what something of a type may be put into.
func (g *grower) target(is string) branch {
	names := g.named(is)
	switch pick := g.d.below(4); {
	case pick < 2 && len(names) > 0:
		return names[g.d.below(len(names))]
	case pick == 2:
		if fields := g.fieldsOf(is); len(fields) > 0 {
			f := fields[g.d.below(len(fields))]
			return of(api.KDot, g.exactly(f.is, 2)).text(f.name)
		}
	}
	if g.isWrong() {
		return of(api.KIndex, g.expression("str", 2), g.expression("int", 2))
	}
	return of(api.KIndex, g.exactly("["+is+"]", 2), g.expression("int", 2))
}

// named are the names of a type that are seen.
func (g *grower) named(is string) []branch {
	var all []branch
	for i, v := range g.seen {
		isHidden := slices.ContainsFunc(g.seen[i+1:], func(other typed) bool { return other.name == v.name })
		if v.is == is && !isHidden {
			all = append(all, of(api.KName).text(v.name))
		}
	}
	return all
}

// fieldsOf are the fields of a type, with the records that they are of.
func (g *grower) fieldsOf(is string) []typed {
	var all []typed
	for _, rec := range g.recs {
		for _, field := range rec.params {
			if field.is == is {
				all = append(all, typed{name: field.name, is: rec.name})
			}
		}
	}
	return all
}

func (g *grower) anyCall(depth int) branch {
	if g.d.below(2) == 0 {
		return g.builtCall(g.d.one("int", "str", "comp"), depth)
	}
	return g.call(g.fns[g.d.below(len(g.fns))], depth)
}

func (g *grower) call(fn typed, depth int) branch {
	b := of(api.KCall).text(fn.name)
	for _, param := range fn.params {
		b.kids = append(b.kids, g.expression(param.is, depth-1))
	}
	return g.miscounted(b)
}

// miscounted has an argument too few or too many, if that is to be.
func (g *grower) miscounted(b branch) branch {
	if g.isWrong() {
		if len(b.kids) > 0 && g.d.below(2) == 0 {
			b.kids = b.kids[1:]
		} else {
			b.kids = append(b.kids, g.expression(g.anyType(1), 0))
		}
	}
	return b
}

func (g *grower) builtCall(is string, depth int) branch {
	var name string
	var wants []string
	switch is {
	case "int":
		name = g.d.one("len", "re", "im", "read", "rand")
		wants = map[string][]string{"len": {g.d.one("str", "["+g.anyType(1)+"]")}, "re": {"comp"}, "im": {"comp"}, "rand": {"int"}}[name]
	case "str":
		name = g.d.one("text", "chr")
		wants = map[string][]string{"text": {g.d.one("int", "bool", "comp")}, "chr": {"int"}}[name]
	case "comp":
		name, wants = "pair", []string{"int", "int"}
	}
	b := of(api.KCall).text(name)
	for _, want := range wants {
		b.kids = append(b.kids, g.exactly(want, depth-1))
	}
	return g.miscounted(b)
}

// expression is one of a type, or one that fits it.
func (g *grower) expression(is string, depth int) branch {
	if g.isWrong() {
		is = g.d.one("int", "bool", "str", "comp", "nil", "none", g.anyType(2))
	}
	names := g.named(is)
	switch pick := g.d.below(9); {
	case depth <= 0 || is == "nil":
	case is == "none" || pick == 0:
		may := slices.DeleteFunc(slices.Clone(g.fns), func(fn typed) bool { return fn.is != is })
		if len(may) > 0 {
			return g.call(may[g.d.below(len(may))], depth)
		}
	case pick == 1 && strings.Contains("int str comp", is):
		return g.builtCall(is, depth)
	case pick == 2:
		return of(api.KIndex, g.exactly("["+is+"]", depth-1), g.expression("int", depth-1))
	case pick == 3:
		if fields := g.fieldsOf(is); len(fields) > 0 {
			f := fields[g.d.below(len(fields))]
			field := f.name
			if g.isWrong() {
				field = g.d.one("x", "y", "none")
			}
			return of(api.KDot, g.exactly(f.is, depth-1)).text(field)
		}
	case pick < 7 && len(names) > 0:
		return names[g.d.below(len(names))]
	case pick < 9 && !isList(is) && !isRec(is):
		return g.operation(is, depth)
	}
	return g.plain(is, depth)
}

// plain is an expression of a type with none, or one, within.
func (g *grower) plain(is string, depth int) branch {
	switch is {
	case "int":
		return of(api.KInt).num(int64(g.d.below(9)))
	case "comp":
		return of(api.KComp).num(int64(g.d.below(9)))
	case "str":
		return of(api.KStr).text(g.d.one("", "a", "\x00"))
	case "bool":
		return of(api.KBool).num(int64(g.d.below(2)))
	case "nil":
		return of(api.KNil)
	case "none":
		return of(api.KCall).text("main")
	}
	if g.d.below(3) == 0 {
		return of(api.KNil)
	}
	return g.made(is, depth)
}

// made makes a record or a list.
func (g *grower) made(is string, depth int) branch {
	if isRec(is) {
		return of(api.KMake, typeTree(is))
	}
	return of(api.KMake, typeTree(is), g.expression("int", depth-1))
}

// exactly is an expression of a type that isn't nil.
func (g *grower) exactly(is string, depth int) branch {
	b := g.expression(is, depth)
	if b.n.Kind == api.KNil && (isRec(is) || isList(is)) && !g.isWrong() {
		return g.made(is, depth)
	}
	return b
}

// operation is an operation that makes something of a type: no list, no record.
func (g *grower) operation(is string, depth int) branch {
	sign := func(signs ...int64) int64 { return signs[g.d.below(len(signs))] }
	two := func(op int64, left, right string) branch {
		return of(api.KBin, g.expression(left, depth-1), g.expression(right, depth-1)).num(op)
	}
	switch pick := g.d.below(5); {
	case is == "str":
		return two(api.OpAdd, is, is)
	case is == "int" && pick == 0 || is == "comp" && pick == 0:
		return of(api.KUn, g.expression(is, depth-1)).num(api.OpNeg)
	case is == "int" && pick == 1:
		return two(sign(api.OpDiv, api.OpRem), is, is)
	case is == "int" || is == "comp":
		return two(sign(api.OpAdd, api.OpSub, api.OpMul), is, is)
	case pick == 0:
		return of(api.KUn, g.expression(is, depth-1)).num(api.OpNot)
	case pick == 1:
		return two(sign(api.OpLt, api.OpLe, api.OpGt, api.OpGe), "int", "int")
	case pick == 2:
		return two(sign(api.OpAnd, api.OpOr), is, is)
	}
	held := g.anyType(1)
	b := of(api.KBin, g.exactly(held, depth-1), g.expression(held, depth-1)).num(sign(api.OpEq, api.OpNe))
	if g.d.below(2) == 0 {
		slices.Reverse(b.kids)
	}
	return b
}

// shaken is a row changed in one place: it may be a program's tree, or not.
func (d *dice) shaken(l []api.Node) []api.Node {
	l = slices.Clone(l)
	at, other := d.below(len(l)), d.below(len(l))
	switch d.below(14) {
	case 0:
		l[at].Kind = uint8(d.below(35))
	case 1:
		l[at].Num += int64(d.below(5) - 2)
	case 2:
		l[at].Text = d.one("a", "b", "x", "y", "v", "A", "B", "len", "text", "f", "g", "main")
	case 3:
		l[at].Text = l[other].Text
	case 4:
		l[at].Kind, l[at].Text, l[at].Num = l[other].Kind, l[other].Text, l[other].Num
	case 5:
		l[at], l[other] = l[other], l[at]
	case 6:
		l[at].Size += d.below(5) - 2
	case 7:
		l = grafted(l, at, other)
	default:
		// From there on, it looks for one of the same sort.
		for i := range l {
			if from := (other + i) % len(l); sortOf(l[from].Kind) == sortOf(l[at].Kind) && from != at {
				return grafted(l, at, from)
			}
		}
	}
	return l
}

// sortOf is the same of nodes that may stand in each other's place.
func sortOf(kind uint8) int {
	switch {
	case kind <= api.KBlock:
		return int(kind)
	case kind <= api.KDo:
		return api.KDo
	case kind <= api.KListT:
		return api.KListT
	}
	return api.KMake
}

// grafted has one node's tree in the place of another one's, if neither is within the other.
func grafted(l []api.Node, at, other int) []api.Node {
	behind, behindOther := at+l[at].Size+1, other+l[other].Size+1
	if at < behindOther && other < behind {
		return l
	}
	graft := slices.Clone(l[other:behindOther])
	more := len(graft) - (behind - at)
	for up := range at {
		if up+l[up].Size >= at {
			l[up].Size += more
		}
	}
	return slices.Replace(l, at, behind, graft...)
}
