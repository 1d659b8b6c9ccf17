package check

import "hindcast/api"

func (c *checker) functions() bool {
	for _, fn := range c.p.Fns {
		if !c.function(fn) {
			return false
		}
	}
	return true
}

// function goes through a function's statements by their points: these have the order in which faults are told.
func (c *checker) function(fn api.Fn) bool {
	for _, point := range c.p.Points[fn.First : fn.First+fn.Points] {
		if !c.statement(point.Node, fn.Result) {
			return false
		}
	}
	kids := c.kids(fn.Node)
	block := kids[len(kids)-1]
	return fn.Result == api.NoKind || c.ends(block) || c.refuse(api.ErrReturn, fn.Node)
}

// ends tells whether a block ends.
func (c *checker) ends(block int) bool {
	// All of these must end: blocks within blocks wait here, however deep they are.
	left := []int{block}
	for len(left) > 0 {
		last := c.lastStatement(left[len(left)-1])
		left = left[:len(left)-1]
		switch c.nodes[last].Kind {
		case api.KReturn:
		case api.KIf:
			kids := c.kids(last)
			if len(kids) < 3 {
				return false
			}
			left = append(left, kids[1], kids[2])
		default:
			return false
		}
	}
	return true
}

// lastStatement is the place of a block's last statement; of a block without one it is the block's own.
func (c *checker) lastStatement(block int) int {
	last := block
	for at := block + 1; at < c.behind(block); at = c.behind(at) {
		last = at
	}
	return last
}

// statement looks at a statement of a function with this result. What stands in its blocks has points of its own.
func (c *checker) statement(at, result int) bool {
	own := c.ownExpressions(at)
	for _, e := range own {
		if !c.expression(e) {
			return false
		}
	}
	switch c.nodes[at].Kind {
	case api.KVar:
		return c.wantFit(own[0], c.typeOf(at))
	case api.KSet:
		return c.set(own[0], own[1])
	case api.KIf, api.KWhile:
		return c.wantType(own[0], api.BoolKind)
	case api.KReturn:
		return c.answer(at, own, result)
	case api.KPrint:
		return c.typeOf(own[0]) != api.NoKind || c.refuse(api.ErrType, own[0])
	}
	return true
}

// ownExpressions are those that stand in a statement, but in none of its blocks.
func (c *checker) ownExpressions(at int) []int {
	var own []int
	for _, kid := range c.kids(at) {
		if c.nodes[kid].Kind >= api.KInt {
			own = append(own, kid)
		}
	}
	return own
}

func (c *checker) set(target, value int) bool {
	isIndex := c.nodes[target].Kind == api.KIndex
	if isIndex && c.typeOf(target+1) == api.StrKind {
		return c.refuse(api.ErrType, target)
	}
	return c.wantFit(value, c.typeOf(target))
}

// answer looks at a return, with an expression or without one.
func (c *checker) answer(at int, own []int, result int) bool {
	switch {
	case len(own) == 0:
		return result == api.NoKind || c.refuse(api.ErrType, at)
	case result == api.NoKind:
		return c.refuse(api.ErrType, own[0])
	}
	return c.wantFit(own[0], result)
}
