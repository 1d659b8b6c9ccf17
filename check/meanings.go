package check

import (
	"slices"

	"hindcast/api"
	"hindcast/names"
	"hindcast/types"
)

// meanings finds out what the names of an expression mean at a point.
func (c *checker) meanings(point int) bool {
	for at := range c.nodes {
		if !c.meaning(at, point) {
			return false
		}
	}
	return true
}

func (c *checker) meaning(at, point int) bool {
	switch c.nodes[at].Kind {
	case api.KName:
		return c.variable(at, point)
	case api.KCall:
		return c.callee(at)
	case api.KMake:
		return c.made(at)
	}
	return true
}

func (c *checker) variable(at, point int) bool {
	slot, ok := names.Slot(c.p, point, c.nodes[at].Text)
	if !ok {
		return c.refuse(api.ErrName, at)
	}
	fn := c.p.Fns[c.p.Points[point].Fn]
	c.marks[at] = api.Mark{Type: c.p.Slots[fn.At+slot], Ref: slot}
	return true
}

func (c *checker) callee(at int) bool {
	name := c.nodes[at].Text
	if there := names.Built(name); there != 0 {
		c.marks[at].Ref = -there
		return true
	}
	number := slices.IndexFunc(c.p.Fns, func(fn api.Fn) bool { return fn.Name == name })
	if number < 0 {
		return c.refuse(api.ErrName, at)
	}
	c.marks[at].Ref = number
	return true
}

// made marks what is made, and its type's nodes. Lists that the program hasn't are new to the table.
func (c *checker) made(at int) bool {
	from, end := at+1, c.behind(at+1)
	table, t := types.Of(c.table, c.recs(), c.nodes[from:end])
	if t == api.NoKind {
		// A type has no more than one record's name: its last node.
		return c.refuse(api.ErrName, end-1)
	}
	c.table = table
	c.marks[at].Type = t
	for in := from; in < end; in++ {
		c.marks[in].Type = t
		t = table[t].Of
	}
	return true
}

func (c *checker) recs() []string {
	var recs []string
	for _, rec := range c.p.Recs {
		recs = append(recs, rec.Name)
	}
	return recs
}
