package check

import (
	"hindcast/api"
	"hindcast/types"
)

// checker finds out the types of a tree's expressions. Its steps tell whether all went well; if not, fault says what didn't.
type checker struct {
	// p is the program whose records, functions and variables there are.
	p api.Prog
	// nodes are the program's tree, or that of an expression that is read by itself; marks and table go with it.
	nodes []api.Node
	marks []api.Mark
	table []api.Type
	fault api.Fault
}

// refuse tells the fault at a node.
func (c *checker) refuse(code api.Errno, at int) bool {
	c.fault = api.Fault{Code: code, Line: c.nodes[at].Line, Col: c.nodes[at].Col}
	return false
}

// behind is the place behind all that belongs to a node.
func (c *checker) behind(at int) int { return at + c.nodes[at].Size + 1 }

// kids are the places of a node's children.
func (c *checker) kids(at int) []int {
	var kids []int
	for kid := at + 1; kid < c.behind(at); kid = c.behind(kid) {
		kids = append(kids, kid)
	}
	return kids
}

// typeOf is an expression's type, when it is found out.
func (c *checker) typeOf(at int) int { return c.marks[at].Type }

func (c *checker) setType(at, t int) bool {
	c.marks[at].Type = t
	return true
}

func (c *checker) kindOf(t int) uint8 { return c.table[t].Kind }

func (c *checker) fits(have, want int) bool { return types.Fits(c.table, have, want) }

// wantFit asks an expression to fit a type.
func (c *checker) wantFit(at, want int) bool {
	return c.fits(c.typeOf(at), want) || c.refuse(api.ErrType, at)
}

// wantType asks an expression to be of just this type.
func (c *checker) wantType(at, want int) bool {
	return c.typeOf(at) == want || c.refuse(api.ErrType, at)
}
