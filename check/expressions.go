package check

import (
	"slices"

	"hindcast/api"
)

// kinds has a bit for each kind of types.
type kinds uint8

const (
	ints  kinds = 1 << api.IntKind
	bools kinds = 1 << api.BoolKind
	strs  kinds = 1 << api.StrKind
	comps kinds = 1 << api.CompKind
	lists kinds = 1 << api.ListKind
)

func (k kinds) has(kind uint8) bool { return k>>kind&1 == 1 }

// constants are the types of expressions that are values by themselves, by the kinds of their nodes.
var constants = [api.KNil + 1]int{
	api.KInt: api.IntKind, api.KComp: api.CompKind, api.KStr: api.StrKind, api.KBool: api.BoolKind, api.KNil: api.NilKind,
}

// counts are how many arguments functions that are there have, by their numbers.
var counts = [api.BRand + 1]int{
	api.BLen: 1, api.BStr: 1, api.BRe: 1, api.BIm: 1, api.BPair: 2, api.BChr: 1, api.BRead: 0, api.BRand: 1,
}

// arguments are the kinds of which each argument of theirs may be.
var arguments = [api.BRand + 1]kinds{
	api.BLen: strs | lists, api.BStr: ints | bools | comps, api.BRe: comps, api.BIm: comps, api.BPair: ints, api.BChr: ints, api.BRand: ints,
}

// results are the types of what they answer.
var results = [api.BRand + 1]int{
	api.BLen: api.IntKind, api.BStr: api.StrKind, api.BRe: api.IntKind, api.BIm: api.IntKind,
	api.BPair: api.CompKind, api.BChr: api.StrKind, api.BRead: api.IntKind, api.BRand: api.IntKind,
}

// operands are the kinds of which an operation's operands may be, both of the same one. What else may be held against each other by OpEq and OpNe isn't among them.
var operands = [api.OpOr + 1]kinds{
	api.OpAdd: ints | strs | comps, api.OpSub: ints | comps, api.OpMul: ints | comps, api.OpDiv: ints, api.OpRem: ints,
	api.OpEq: ints | bools | strs | comps, api.OpNe: ints | bools | strs | comps,
	api.OpLt: ints, api.OpLe: ints, api.OpGt: ints, api.OpGe: ints,
	api.OpNeg: ints | comps, api.OpNot: bools, api.OpAnd: bools, api.OpOr: bools,
}

// expression finds out the types of an expression and of all that stands within it, the inner ones first.
func (c *checker) expression(at int) bool {
	// Nodes wait here for the last one that stands within them, however deep they are.
	var open []int
	for in := at; in < c.behind(at); in++ {
		open = append(open, in)
		for len(open) > 0 && c.behind(open[len(open)-1]) == in+1 {
			if !c.judge(open[len(open)-1]) {
				return false
			}
			open = open[:len(open)-1]
		}
	}
	return true
}

// judge finds out one node's type; those of what stands within are known. A name's is so from the beginning, and so are those of types.
func (c *checker) judge(at int) bool {
	n := c.nodes[at]
	switch n.Kind {
	case api.KInt, api.KComp, api.KStr, api.KBool, api.KNil:
		return c.setType(at, constants[n.Kind])
	case api.KCall:
		return c.call(at)
	case api.KIndex:
		return c.index(at)
	case api.KDot:
		return c.dot(at)
	case api.KUn:
		return c.unary(at)
	case api.KBin:
		return c.binary(at)
	case api.KMake:
		return c.length(at)
	}
	return true
}

func (c *checker) call(at int) bool {
	number := c.marks[at].Ref
	if number < 0 {
		there := -number
		return c.called(at, counts[there], results[there], func(_, have int) bool {
			return arguments[there].has(c.kindOf(have))
		})
	}
	fn := c.p.Fns[number]
	return c.called(at, fn.Params, fn.Result, func(nth, have int) bool {
		return c.fits(have, c.p.Slots[fn.At+nth])
	})
}

// called asks of a call how many its arguments are, and of each one whether it may be of its type.
func (c *checker) called(at, count, result int, may func(nth, have int) bool) bool {
	args := c.kids(at)
	if len(args) != count {
		return c.refuse(api.ErrCount, at)
	}
	for nth, arg := range args {
		if !may(nth, c.typeOf(arg)) {
			return c.refuse(api.ErrType, arg)
		}
	}
	return c.setType(at, result)
}

func (c *checker) index(at int) bool {
	kids := c.kids(at)
	indexed := c.table[c.typeOf(kids[0])]
	element := indexed.Of
	switch indexed.Kind {
	case api.ListKind:
	case api.StrKind:
		element = api.IntKind
	default:
		return c.refuse(api.ErrType, kids[0])
	}
	return c.wantType(kids[1], api.IntKind) && c.setType(at, element)
}

func (c *checker) dot(at int) bool {
	ahead := c.table[c.typeOf(at+1)]
	if ahead.Kind != api.RecKind {
		return c.refuse(api.ErrType, at+1)
	}
	rec := c.p.Recs[ahead.Of]
	fields := c.p.Fields[rec.From : rec.From+rec.Count]
	number := slices.IndexFunc(fields, func(f api.Field) bool { return f.Name == c.nodes[at].Text })
	if number < 0 {
		return c.refuse(api.ErrName, at)
	}
	c.marks[at].Ref = number
	return c.setType(at, fields[number].Type)
}

func (c *checker) unary(at int) bool {
	t := c.typeOf(at + 1)
	if !operands[c.nodes[at].Num].has(c.kindOf(t)) {
		return c.refuse(api.ErrType, at+1)
	}
	return c.setType(at, t)
}

func (c *checker) binary(at int) bool {
	op, kids := c.nodes[at].Num, c.kids(at)
	left, right := c.typeOf(kids[0]), c.typeOf(kids[1])
	plain := left == right && operands[op].has(c.kindOf(left))
	isEqual := op == api.OpEq || op == api.OpNe
	if !plain && !(isEqual && c.areObjects(left, right)) {
		return c.refuse(api.ErrType, at)
	}
	if op >= api.OpEq && op <= api.OpGe {
		return c.setType(at, api.BoolKind)
	}
	return c.setType(at, left)
}

// areObjects tells whether two types are records, lists or nil, values of which may be held against each other.
func (c *checker) areObjects(left, right int) bool {
	againstNil := func(t int) bool { return c.fits(api.NilKind, t) }
	if !againstNil(left) || !againstNil(right) || left == api.NilKind && right == api.NilKind {
		return false
	}
	return c.fits(left, right) || c.fits(right, left)
}

// length asks of a list that is made how long it is to be; a record has no expression.
func (c *checker) length(at int) bool {
	kids := c.kids(at)
	return len(kids) == 1 || c.wantType(kids[1], api.IntKind)
}
