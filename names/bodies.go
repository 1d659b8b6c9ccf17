package names

import "hindcast/api"

// inBody is where the resolver is in a function's block, and what names of variables mean there.
type inBody struct {
	fn int
	// open are the places behind the blocks in which it is, the innermost one's last.
	open []int
	// meant has for each name that is seen the place of its variable in the program's Vars.
	meant map[string]int
	// holders tell of each place there where the variable stands.
	holders []holder
}

// holder tells in how many blocks a variable stands, and the place of the one that it hides there, or nowhere.
type holder struct{ depth, hidden int }

func (r *resolver) bodies() bool {
	r.meant = map[string]int{}
	for number := range r.p.Fns {
		if !r.body(number) {
			return false
		}
	}
	return true
}

// body finds out a function's slots and points, and what stands in its block.
func (r *resolver) body(number int) bool {
	fn := &r.p.Fns[number]
	fn.At, fn.First = len(r.p.Slots), len(r.p.Points)
	params, result := r.head(fn.Node)
	block := r.behind(result)
	r.fn = number
	r.enter(block)
	// As far as names go, parameters stand in their function's own block.
	for _, param := range params {
		r.declare(param)
	}
	if !r.inside(block+1, r.behind(block)) {
		return false
	}
	fn.Slots, fn.Points = len(r.p.Slots)-fn.At, len(r.p.Points)-fn.First
	return true
}

func (r *resolver) enter(block int) { r.open = append(r.open, r.behind(block)) }

// inside goes through the nodes of a function's block.
func (r *resolver) inside(from, end int) bool {
	for at := from; at < end; at++ {
		r.leave(at)
		switch n := r.p.Nodes[at]; {
		case n.Kind == api.KBlock:
			r.enter(at)
		case n.Kind == api.KVar:
			if !r.variable(at) {
				return false
			}
			at += n.Size
		case isStatement(n.Kind):
			r.point(at)
		default:
			if !r.use(at) {
				return false
			}
		}
	}
	r.leave(end)
	return true
}

func isStatement(kind uint8) bool { return kind >= api.KVar && kind <= api.KDo }

func (r *resolver) point(at int) {
	n := r.p.Nodes[at]
	r.p.Marks[at].Point = len(r.p.Points)
	r.p.Points = append(r.p.Points, api.Point{Fn: r.fn, Node: at, Line: n.Line, Col: n.Col})
}

// variable goes through all of a variable's statement: its name isn't seen in that.
func (r *resolver) variable(at int) bool {
	r.point(at)
	if !r.typed(at, at+1) {
		return false
	}
	for in := at + 1; in < r.behind(at); in++ {
		if !r.use(in) {
			return false
		}
	}
	if other, ok := r.meant[r.p.Nodes[at].Text]; ok && r.holders[other].depth == len(r.open) {
		return r.refuse(api.ErrTwice, at)
	}
	if r.slots() == api.MaxSlots {
		return r.refuse(api.ErrMany, at)
	}
	r.p.Marks[at].Ref = r.slots()
	r.declare(at)
	return true
}

// slots are how many slots the function has so far.
func (r *resolver) slots() int { return len(r.p.Slots) - r.p.Fns[r.fn].At }

// declare has a slot for a parameter or a variable, whose name is seen from here on.
func (r *resolver) declare(at int) {
	name, place := r.p.Nodes[at].Text, len(r.p.Vars)
	hidden, ok := r.meant[name]
	if !ok {
		hidden = nowhere
	}
	r.meant[name] = place
	r.holders = append(r.holders, holder{depth: len(r.open), hidden: hidden})
	r.p.Vars = append(r.p.Vars, api.Var{Fn: r.fn, Name: name, Slot: r.slots(), First: len(r.p.Points)})
	r.p.Slots = append(r.p.Slots, r.p.Marks[at].Type)
}

// leave ends the blocks that don't go on to a place.
func (r *resolver) leave(at int) {
	for len(r.open) > 0 && r.open[len(r.open)-1] == at {
		r.forget()
		r.open = r.open[:len(r.open)-1]
	}
}

// forget ends the variables of the innermost block: their names mean again what they hid.
func (r *resolver) forget() {
	var hidden []int
	for name, place := range r.meant {
		here := r.holders[place]
		if here.depth < len(r.open) {
			continue
		}
		r.p.Vars[place].Last = len(r.p.Points)
		delete(r.meant, name)
		if here.hidden != nowhere {
			hidden = append(hidden, here.hidden)
		}
	}
	// The map gets none of them while it is gone through.
	for _, place := range hidden {
		r.meant[r.p.Vars[place].Name] = place
	}
}

// use finds out what a node of an expression means by its name, if it has one that isn't a field's.
func (r *resolver) use(at int) bool {
	switch r.p.Nodes[at].Kind {
	case api.KName:
		return r.name(at)
	case api.KCall:
		return r.call(at)
	case api.KMake:
		return r.typed(at, at+1)
	}
	return true
}

func (r *resolver) name(at int) bool {
	place, ok := r.meant[r.p.Nodes[at].Text]
	if !ok {
		return r.refuse(api.ErrName, at)
	}
	slot := r.p.Vars[place].Slot
	r.p.Marks[at] = api.Mark{Type: r.p.Slots[r.p.Fns[r.fn].At+slot], Ref: slot}
	return true
}

func (r *resolver) call(at int) bool {
	name := r.p.Nodes[at].Text
	if there := Built(name); there != 0 {
		r.p.Marks[at].Ref = -there
		return true
	}
	number := r.numberOf(name)
	if number == nowhere {
		return r.refuse(api.ErrName, at)
	}
	r.p.Marks[at].Ref = number
	return true
}
