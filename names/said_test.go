package names_test

import (
	"slices"
	"strings"

	"hindcast/api"
	"hindcast/tree"
)

// said is a program as the chapter says it, apart from the program: blocks are gone through as trees, with the names that are seen handed down.
type said struct {
	p api.Prog
	// types are the types by what they are: "[[P]]".
	types []string
	// seen are the names that are seen at each point, those that aren't meant left out.
	seen [][]api.Var
	fn   int
}

func isStatement(kind uint8) bool { return kind >= api.KVar && kind <= api.KDo }

func isType(kind uint8) bool { return kind >= api.KNoneT && kind <= api.KListT }

// saidOf is what is said of a row, or the fault that is told of it.
func saidOf(l []api.Node) (s *said, fault api.Fault) {
	if !tree.May(l) {
		return nil, api.Fault{Code: api.ErrArg}
	}
	defer func() {
		if told := recover(); told != nil {
			s, fault = nil, told.(api.Fault)
		}
	}()
	s = &said{types: []string{"", "int", "bool", "str", "comp", "nil"}}
	s.p.Nodes, s.p.Marks = l, make([]api.Mark, len(l))
	s.records()
	s.fields()
	s.functions()
	s.main()
	for fn := range s.p.Fns {
		s.body(fn)
	}
	s.table()
	return s, api.Fault{}
}

// tell breaks off with the fault at a node.
func (s *said) tell(is bool, code api.Errno, at int) {
	if is {
		panic(api.Fault{Code: code, Line: s.p.Nodes[at].Line, Col: s.p.Nodes[at].Col})
	}
}

// kids are a node's children: those of a row that is right end where the next one begins.
func (s *said) kids(at int) []int {
	var kids []int
	for kid := at + 1; kid <= at+s.p.Nodes[at].Size; kid += 1 + s.p.Nodes[kid].Size {
		kids = append(kids, kid)
	}
	return kids
}

func (s *said) text(at int) string { return s.p.Nodes[at].Text }

// of are the children of a kind.
func (s *said) of(at int, kind uint8) []int {
	return slices.DeleteFunc(s.kids(at), func(kid int) bool { return s.p.Nodes[kid].Kind != kind })
}

// isAhead tells whether one of the first so many has the same text.
func (s *said) isAhead(all []int, count int) bool {
	return slices.ContainsFunc(all[:count], func(at int) bool { return s.text(at) == s.text(all[count]) })
}

func (s *said) records() {
	recs := s.of(0, api.KRec)
	for i, at := range recs {
		s.tell(i >= 100, api.ErrMany, at)
		s.tell(s.isAhead(recs, i), api.ErrTwice, at)
		s.p.Marks[at].Ref = i
		s.types = append(s.types, s.text(at))
	}
}

func (s *said) fields() {
	for _, rec := range s.of(0, api.KRec) {
		from := len(s.p.Fields)
		fields := s.kids(rec)
		for i, at := range fields {
			s.tell(i >= 100, api.ErrMany, at)
			s.tell(s.isAhead(fields, i), api.ErrTwice, at)
			s.p.Marks[at].Type = s.typeAt(at + 1)
			s.p.Fields = append(s.p.Fields, api.Field{Name: s.text(at), Type: s.p.Marks[at].Type})
		}
		s.p.Recs = append(s.p.Recs, api.Rec{Name: s.text(rec), From: from, Count: len(fields)})
	}
}

// typeAt is a type's number; its lists are met from the inner one on.
func (s *said) typeAt(at int) int {
	is := ""
	switch s.p.Nodes[at].Kind {
	case api.KListT:
		is = "[" + s.types[s.typeAt(at+1)] + "]"
		if !slices.Contains(s.types, is) {
			s.types = append(s.types, is)
		}
	case api.KRecT:
		is = s.text(at)
		s.tell(!slices.Contains(s.types, is), api.ErrName, at)
	case api.KIntT:
		is = "int"
	case api.KBoolT:
		is = "bool"
	case api.KStrT:
		is = "str"
	case api.KCompT:
		is = "comp"
	}
	s.p.Marks[at].Type = slices.Index(s.types, is)
	return s.p.Marks[at].Type
}

// saidBuilt is the number of a function that is there.
func saidBuilt(name string) int {
	return 1 + slices.Index([]string{"len", "text", "re", "im", "pair", "chr", "read", "rand"}, name)
}

func (s *said) functions() {
	fns := s.of(0, api.KFn)
	for i, at := range fns {
		s.tell(i >= 100, api.ErrMany, at)
		s.tell(s.isAhead(fns, i) || saidBuilt(s.text(at)) > 0, api.ErrTwice, at)
		params := s.of(at, api.KParam)
		for i, param := range params {
			s.tell(i >= 20, api.ErrMany, param)
			s.tell(s.isAhead(params, i), api.ErrTwice, param)
			s.p.Marks[param].Type = s.typeAt(param + 1)
		}
		result := s.typeAt(s.kids(at)[len(params)])
		s.p.Marks[at] = api.Mark{Type: result, Ref: i}
		s.p.Fns = append(s.p.Fns, api.Fn{Name: s.text(at), Node: at, Params: len(params), Result: result})
	}
}

func (s *said) main() {
	for _, at := range s.of(0, api.KFn) {
		if s.text(at) == "main" {
			kids := s.kids(at)
			s.tell(len(kids) != 2 || s.p.Nodes[kids[0]].Kind != api.KNoneT, api.ErrMain, at)
			return
		}
	}
	panic(api.Fault{Code: api.ErrMain})
}

// points are how many statements stand ahead of a place.
func (s *said) points(at int) int {
	count := 0
	for _, n := range s.p.Nodes[:at] {
		if isStatement(n.Kind) {
			count++
		}
	}
	return count
}

func (s *said) body(number int) {
	fn := &s.p.Fns[number]
	s.fn = number
	kids := s.kids(fn.Node)
	block := kids[fn.Params+1]
	fn.At, fn.First = len(s.p.Slots), len(s.p.Points)
	var seen []api.Var
	var own []string
	for _, param := range kids[:fn.Params] {
		seen = append(seen, s.variable(param, block))
		own = append(own, s.text(param))
	}
	s.block(block, seen, own)
	fn.Slots, fn.Points = len(s.p.Slots)-fn.At, len(s.p.Points)-fn.First
}

// variable is what is said of a parameter or a variable of a block.
func (s *said) variable(at, block int) api.Var {
	v := api.Var{
		Fn: s.fn, Name: s.text(at), Slot: len(s.p.Slots) - s.p.Fns[s.fn].At,
		First: s.points(at + 1), Last: s.points(block + 1 + s.p.Nodes[block].Size),
	}
	s.p.Vars = append(s.p.Vars, v)
	s.p.Slots = append(s.p.Slots, s.p.Marks[at].Type)
	return v
}

// block goes through a block, at whose begin these are seen. Its own names are those that no variable of it may have.
func (s *said) block(at int, seen []api.Var, own []string) {
	seen, own = slices.Clone(seen), slices.Clone(own)
	for _, kid := range s.kids(at) {
		n := s.p.Nodes[kid]
		s.p.Marks[kid].Point = len(s.p.Points)
		s.p.Points = append(s.p.Points, api.Point{Fn: s.fn, Node: kid, Line: n.Line, Col: n.Col})
		s.seen = append(s.seen, slices.Clone(seen))
		s.within(kid, seen)
		if n.Kind != api.KVar {
			continue
		}
		s.tell(slices.Contains(own, n.Text), api.ErrTwice, kid)
		slot := len(s.p.Slots) - s.p.Fns[s.fn].At
		s.tell(slot >= 200, api.ErrMany, kid)
		s.p.Marks[kid].Ref = slot
		// The one that stood ahead isn't meant any more.
		seen = slices.DeleteFunc(seen, func(v api.Var) bool { return v.Name == n.Text })
		seen = append(seen, s.variable(kid, at))
		own = append(own, n.Text)
	}
}

// within goes through what stands in a statement or an expression.
func (s *said) within(at int, seen []api.Var) {
	for _, kid := range s.kids(at) {
		kind := s.p.Nodes[kid].Kind
		switch {
		case isType(kind):
			s.p.Marks[at].Type = s.typeAt(kid)
		case kind == api.KBlock:
			s.block(kid, seen, nil)
		default:
			s.meant(kid, seen)
			s.within(kid, seen)
		}
	}
}

// meant is what a name means, ahead of what stands within it.
func (s *said) meant(at int, seen []api.Var) {
	name := s.text(at)
	switch s.p.Nodes[at].Kind {
	case api.KName:
		i := slices.IndexFunc(seen, func(v api.Var) bool { return v.Name == name })
		s.tell(i < 0, api.ErrName, at)
		s.p.Marks[at] = api.Mark{Ref: seen[i].Slot, Type: s.p.Slots[s.p.Fns[s.fn].At+seen[i].Slot]}
	case api.KCall:
		i := slices.IndexFunc(s.p.Fns, func(fn api.Fn) bool { return fn.Name == name })
		s.tell(i < 0 && saidBuilt(name) == 0, api.ErrName, at)
		if i < 0 {
			i = -saidBuilt(name)
		}
		s.p.Marks[at].Ref = i
	}
}

// table is the table of the types that were met.
func (s *said) table() {
	for t, is := range s.types {
		switch {
		case t <= api.NilKind:
			s.p.Types = append(s.p.Types, api.Type{Kind: uint8(t)})
		case t < 6+len(s.p.Recs):
			s.p.Types = append(s.p.Types, api.Type{Kind: api.RecKind, Of: t - 6})
		default:
			s.p.Types = append(s.p.Types, api.Type{Kind: api.ListKind, Of: slices.Index(s.types, strings.TrimSuffix(is[1:], "]"))})
		}
	}
}
