package names_test

import (
	"slices"

	"hindcast/api"
)

// branch is a tree that is put together: a node with its children.
type branch struct {
	n    api.Node
	kids []branch
}

func of(kind uint8, kids ...branch) branch { return branch{api.Node{Kind: kind}, kids} }

func (b branch) text(s string) branch {
	b.n.Text = s
	return b
}

func (b branch) num(n int64) branch {
	b.n.Num = n
	return b
}

// row is the tree's row of nodes, each at a place of its own.
func (b branch) row() []api.Node {
	l := b.appended(nil)
	for at := range l {
		l[at].Line, l[at].Col = 7*at-50, -at
	}
	return l
}

func (b branch) appended(l []api.Node) []api.Node {
	at := len(l)
	l = append(l, b.n)
	for _, kid := range b.kids {
		l = kid.appended(l)
	}
	l[at].Size = len(l) - at - 1
	return l
}

// dice are thrown the same way each time.
type dice struct{ x uint64 }

func (d *dice) below(count int) int {
	d.x ^= d.x << 13
	d.x ^= d.x >> 7
	d.x ^= d.x << 17
	return int((d.x >> 20) % uint64(count))
}

func (d *dice) one(of ...string) string { return of[d.below(len(of))] }

// grower makes programs' trees whose names mean something, but for one in so many (wrong; never, if 0).
type grower struct {
	d     *dice
	wrong int
	recs  []string
	fns   []string
}

func (g *grower) isWrong() bool { return g.wrong > 0 && g.d.below(g.wrong) == 0 }

// fresh is a name that isn't among these, or sometimes one that is.
func (g *grower) fresh(names []string, taken []string) string {
	if g.isWrong() {
		return g.d.one(names...)
	}
	free := slices.DeleteFunc(slices.Clone(names), func(s string) bool { return slices.Contains(taken, s) })
	if len(free) == 0 {
		return ""
	}
	return g.d.one(free...)
}

func (g *grower) typeOf(depth int) branch {
	switch pick := g.d.below(9); {
	case pick < 3 && depth > 0:
		return of(api.KListT, g.typeOf(depth-1))
	case pick < 5 && len(g.recs) > 0:
		return of(api.KRecT).text(g.d.one(g.recs...))
	case pick == 5 && g.isWrong():
		return of(api.KRecT).text("None")
	case pick == 6:
		return of(api.KBoolT)
	case pick == 7:
		return of(api.KStrT)
	case pick == 8:
		return of(api.KCompT)
	}
	return of(api.KIntT)
}

func (g *grower) program() []api.Node {
	var kids []branch
	g.recs, g.fns = nil, nil
	for range g.d.below(4) {
		if name := g.fresh([]string{"A", "B", "C", "D"}, g.recs); name != "" {
			g.recs = append(g.recs, name)
		}
	}
	for range g.d.below(4) {
		if name := g.fresh([]string{"f", "g", "a", "b", "len"}, append([]string{"len"}, g.fns...)); name != "" {
			g.fns = append(g.fns, name)
		}
	}
	if !g.isWrong() {
		g.fns = slices.Insert(g.fns, g.d.below(len(g.fns)+1), "main")
	}
	for _, name := range g.recs {
		kids = append(kids, g.record(name))
	}
	for _, name := range g.fns {
		fn := g.function(name)
		kids = slices.Insert(kids, g.d.below(len(kids)+1), fn)
	}
	return of(api.KProg, kids...).row()
}

func (g *grower) record(name string) branch {
	b, taken := of(api.KRec).text(name), []string(nil)
	for range g.d.below(4) {
		field := g.fresh([]string{"a", "b", "c", "d", "x"}, taken)
		taken = append(taken, field)
		b.kids = append(b.kids, of(api.KField, g.typeOf(2)).text(field))
	}
	return b
}

func (g *grower) function(name string) branch {
	b, seen := of(api.KFn).text(name), []string(nil)
	result := of(api.KNoneT)
	if name != "main" || g.isWrong() {
		for range g.d.below(4) {
			param := g.fresh([]string{"a", "b", "c", "d", "x"}, seen)
			seen = append(seen, param)
			b.kids = append(b.kids, of(api.KParam, g.typeOf(2)).text(param))
		}
		if g.d.below(2) == 0 {
			result = g.typeOf(2)
		}
	}
	b.n.Num = int64(len(b.kids))
	b.kids = append(b.kids, result, g.block(3, seen, seen))
	return b
}

func (g *grower) block(depth int, seen, own []string) branch {
	b := of(api.KBlock)
	seen, own = slices.Clone(seen), slices.Clone(own)
	for range g.d.below(5) {
		if g.d.below(5) > 1 {
			b.kids = append(b.kids, g.statement(depth, seen))
			continue
		}
		name := g.fresh([]string{"a", "b", "c", "d", "f", "len"}, own)
		if name != "" {
			b.kids = append(b.kids, of(api.KVar, g.typeOf(2), g.expression(2, seen)).text(name))
			seen, own = append(seen, name), append(own, name)
		}
	}
	return b
}

func (g *grower) statement(depth int, seen []string) branch {
	pick := g.d.below(9)
	if depth == 0 {
		pick %= 5
	}
	switch e := g.expression(2, seen); {
	case pick == 0:
		return of(api.KPrint, e)
	case pick == 1:
		return of(api.KReturn)
	case pick == 2:
		return of(api.KReturn, e)
	case pick == 3:
		return of(api.KDo, g.call(2, seen))
	case pick == 4:
		return of(api.KSet, g.target(seen), e)
	case pick == 5:
		return of(api.KWhile, e, g.block(depth-1, seen, nil))
	case pick == 6:
		return of(api.KIf, e, g.block(depth-1, seen, nil), g.block(depth-1, seen, nil))
	default:
		return of(api.KIf, e, g.block(depth-1, seen, nil))
	}
}

func (g *grower) target(seen []string) branch {
	switch g.d.below(3) {
	case 0:
		return of(api.KIndex, g.expression(1, seen), g.expression(1, seen))
	case 1:
		return of(api.KDot, g.expression(1, seen)).text(g.d.one("a", "x"))
	}
	return g.name(seen)
}

// name is one that is seen; without one it is a field of nothing.
func (g *grower) name(seen []string) branch {
	if g.isWrong() {
		return of(api.KName).text(g.d.one("a", "b", "c", "main", "len"))
	}
	if len(seen) == 0 {
		return of(api.KDot, of(api.KNil)).text("a")
	}
	return of(api.KName).text(g.d.one(seen...))
}

func (g *grower) call(depth int, seen []string) branch {
	b := of(api.KCall).text(g.d.one("len", "text", "re", "im", "pair", "chr", "read", "rand"))
	if len(g.fns) > 0 && g.d.below(2) == 0 {
		b.n.Text = g.d.one(g.fns...)
	}
	if g.isWrong() {
		b.n.Text = g.d.one("print_", "str_", "none", "a", "f", "x")
	}
	for range g.d.below(3) {
		b.kids = append(b.kids, g.expression(depth-1, seen))
	}
	return b
}

func (g *grower) expression(depth int, seen []string) branch {
	pick := g.d.below(14)
	if depth <= 0 {
		pick %= 8
	}
	switch pick {
	case 0:
		return of(api.KInt).num(int64(g.d.below(9)))
	case 1:
		return of(api.KComp).num(int64(g.d.below(9)))
	case 2:
		return of(api.KStr).text(g.d.one("", "a", "\x00"))
	case 3:
		return of(api.KBool).num(int64(g.d.below(2)))
	case 4:
		return of(api.KNil)
	case 8:
		return g.call(depth, seen)
	case 9:
		return of(api.KIndex, g.expression(depth-1, seen), g.expression(depth-1, seen))
	case 10:
		return of(api.KDot, g.expression(depth-1, seen)).text(g.d.one("a", "f", "main"))
	case 11:
		return of(api.KUn, g.expression(depth-1, seen)).num(api.OpNot)
	case 12:
		return of(api.KBin, g.expression(depth-1, seen), g.expression(depth-1, seen)).num(api.OpAdd)
	case 13:
		return g.maker(depth, seen)
	}
	return g.name(seen)
}

func (g *grower) maker(depth int, seen []string) branch {
	if t := g.typeOf(2); t.n.Kind == api.KRecT {
		return of(api.KMake, t)
	} else if t.n.Kind == api.KListT {
		return of(api.KMake, t, g.expression(depth-1, seen))
	}
	return of(api.KMake, of(api.KListT, of(api.KIntT)), g.expression(depth-1, seen))
}

// shaken is a row changed in one place: it may be a program's tree, or not.
func (d *dice) shaken(l []api.Node) []api.Node {
	l = slices.Clone(l)
	at, other := d.below(len(l)), d.below(len(l))
	switch d.below(8) {
	case 0:
		l[at].Kind = uint8(d.below(35))
	case 1:
		l[at].Size += d.below(5) - 2
	case 2:
		l[at].Num += int64(d.below(5) - 2)
	case 3:
		l[at].Text = d.one("", "a", "A", "None", "len", "main", "var", "f", "B")
	case 4:
		l[at].Text = l[other].Text
	case 5:
		l[at], l[other] = l[other], l[at]
	case 6:
		l = slices.Delete(l, at, at+1)
	case 7:
		l = slices.Insert(l, at, l[other])
	}
	return l
}
