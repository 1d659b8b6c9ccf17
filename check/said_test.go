package check_test

import (
	"slices"

	"hindcast/api"
	"hindcast/names"
)

// said is what the chapter says of expressions, apart from the program: trees are gone through from above, and types are texts ("[[P]]").
type said struct {
	// p is a program as layer 9 leaves it.
	p     api.Prog
	nodes []api.Node
	marks []api.Mark
	// types are the types by what they are, by their numbers; "none" is none.
	types []string
	// mean are the variables that names mean, of an expression that is read by itself.
	mean []api.Var
}

func saidOver(p api.Prog, nodes []api.Node, marks []api.Mark) *said {
	s := &said{p: p, nodes: nodes, marks: marks}
	for t, is := range p.Types {
		switch {
		case t <= api.NilKind:
			s.types = append(s.types, []string{"none", "int", "bool", "str", "comp", "nil"}[t])
		case is.Kind == api.RecKind:
			s.types = append(s.types, p.Recs[is.Of].Name)
		default:
			s.types = append(s.types, "["+s.types[is.Of]+"]")
		}
	}
	return s
}

// catch takes the fault with which it was broken off.
func catch(fault *api.Fault) {
	if told := recover(); told != nil {
		*fault = told.(api.Fault)
	}
}

// saidOf is the program of a row, or the fault that is told of it.
func saidOf(l []api.Node) (p api.Prog, fault api.Fault) {
	p, fault = names.Resolve(l)
	if fault != (api.Fault{}) {
		return api.Prog{}, fault
	}
	s := saidOver(p, p.Nodes, slices.Clone(p.Marks))
	defer catch(&fault)
	for _, fn := range p.Fns {
		kids := s.kids(fn.Node)
		block := kids[len(kids)-1]
		s.block(block, s.types[fn.Result])
		s.tell(fn.Result != 0 && !s.ends(block), api.ErrReturn, fn.Node)
	}
	p.Marks = s.marks
	return p, fault
}

// saidOfExpr is what is found out of an expression at a point of a program.
func saidOfExpr(p api.Prog, point int, l []api.Node) (marks []api.Mark, types []string, fault api.Fault) {
	s := saidOver(p, l, make([]api.Mark, len(l)))
	s.mean = names.Seen(p, point)
	defer catch(&fault)
	for at := range l {
		s.meant(at)
	}
	s.expression(0)
	return s.marks, s.types, fault
}

// tell breaks off with the fault at a node.
func (s *said) tell(is bool, code api.Errno, at int) {
	if is {
		panic(api.Fault{Code: code, Line: s.nodes[at].Line, Col: s.nodes[at].Col})
	}
}

func (s *said) kids(at int) []int {
	var kids []int
	for kid := at + 1; kid <= at+s.nodes[at].Size; kid += 1 + s.nodes[kid].Size {
		kids = append(kids, kid)
	}
	return kids
}

// meant is what a name, a call or what is made means by its names.
func (s *said) meant(at int) {
	name := s.nodes[at].Text
	switch s.nodes[at].Kind {
	case api.KName:
		i := slices.IndexFunc(s.mean, func(v api.Var) bool { return v.Name == name })
		s.tell(i < 0, api.ErrName, at)
		v := s.mean[i]
		s.marks[at] = api.Mark{Ref: v.Slot, Type: s.p.Slots[s.p.Fns[v.Fn].At+v.Slot]}
	case api.KCall:
		i := slices.Index([]string{"", "len", "text", "re", "im", "pair", "chr", "read", "rand"}, name)
		s.marks[at].Ref = -i
		if i < 0 {
			i = slices.IndexFunc(s.p.Fns, func(fn api.Fn) bool { return fn.Name == name })
			s.tell(i < 0, api.ErrName, at)
			s.marks[at].Ref = i
		}
	case api.KMake:
		s.marks[at].Type = s.number(s.typeAt(at + 1))
	}
}

// typeAt is a type's text; its lists are met from the inner one on.
func (s *said) typeAt(at int) string {
	is := ""
	switch s.nodes[at].Kind {
	case api.KListT:
		is = "[" + s.typeAt(at+1) + "]"
		if !slices.Contains(s.types, is) {
			s.types = append(s.types, is)
		}
	case api.KRecT:
		is = s.nodes[at].Text
		s.tell(!slices.ContainsFunc(s.p.Recs, func(rec api.Rec) bool { return rec.Name == is }), api.ErrName, at)
	case api.KIntT:
		is = "int"
	case api.KBoolT:
		is = "bool"
	case api.KStrT:
		is = "str"
	case api.KCompT:
		is = "comp"
	}
	s.marks[at].Type = s.number(is)
	return is
}

func (s *said) number(is string) int { return slices.Index(s.types, is) }

func isList(is string) bool { return is[0] == '[' }

func isRec(is string) bool { return is[0] >= 'A' && is[0] <= 'Z' }

// fits tells whether one type fits another one.
func fits(have, want string) bool {
	return have == want || have == "nil" && (isList(want) || isRec(want))
}

// block goes through a block's statements, of a function with this result.
func (s *said) block(at int, result string) {
	for _, kid := range s.kids(at) {
		s.statement(kid, result)
	}
}

func (s *said) statement(at int, result string) {
	kids := s.kids(at)
	switch s.nodes[at].Kind {
	case api.KVar:
		s.tell(!fits(s.expression(kids[1]), s.types[s.marks[at].Type]), api.ErrType, kids[1])
	case api.KSet:
		first, second := s.expression(kids[0]), s.expression(kids[1])
		ofText := s.nodes[kids[0]].Kind == api.KIndex && s.types[s.marks[s.kids(kids[0])[0]].Type] == "str"
		s.tell(ofText, api.ErrType, kids[0])
		s.tell(!fits(second, first), api.ErrType, kids[1])
	case api.KIf, api.KWhile:
		s.tell(s.expression(kids[0]) != "bool", api.ErrType, kids[0])
		for _, block := range kids[1:] {
			s.block(block, result)
		}
	case api.KReturn:
		if len(kids) == 0 {
			s.tell(result != "none", api.ErrType, at)
			return
		}
		is := s.expression(kids[0])
		s.tell(result == "none" || !fits(is, result), api.ErrType, kids[0])
	case api.KPrint:
		s.tell(s.expression(kids[0]) == "none", api.ErrType, kids[0])
	case api.KDo:
		s.expression(kids[0])
	}
}

// ends tells whether a block ends.
func (s *said) ends(block int) bool {
	kids := s.kids(block)
	if len(kids) == 0 {
		return false
	}
	last := kids[len(kids)-1]
	if s.nodes[last].Kind == api.KReturn {
		return true
	}
	kids = s.kids(last)
	return s.nodes[last].Kind == api.KIf && len(kids) == 3 && s.ends(kids[1]) && s.ends(kids[2])
}

// expression marks an expression with its type.
func (s *said) expression(at int) string {
	is := s.typed(at, s.kids(at))
	s.marks[at].Type = s.number(is)
	return is
}

func (s *said) typed(at int, kids []int) string {
	switch s.nodes[at].Kind {
	case api.KInt:
		return "int"
	case api.KComp:
		return "comp"
	case api.KStr:
		return "str"
	case api.KBool:
		return "bool"
	case api.KNil:
		return "nil"
	case api.KCall:
		return s.call(at, kids)
	case api.KIndex:
		return s.index(kids)
	case api.KDot:
		return s.dot(at, kids)
	case api.KUn:
		is := s.expression(kids[0])
		s.tell(!slices.Contains(map[int64][]string{api.OpNeg: {"int", "comp"}, api.OpNot: {"bool"}}[s.nodes[at].Num], is), api.ErrType, kids[0])
		return is
	case api.KBin:
		return s.binary(at, s.expression(kids[0]), s.expression(kids[1]))
	case api.KMake:
		if len(kids) == 2 {
			s.tell(s.expression(kids[1]) != "int", api.ErrType, kids[1])
		}
	}
	return s.types[s.marks[at].Type]
}

func (s *said) call(at int, kids []int) string {
	var have []string
	for _, kid := range kids {
		have = append(have, s.expression(kid))
	}
	if ref := s.marks[at].Ref; ref >= 0 {
		fn := s.p.Fns[ref]
		s.tell(len(kids) != fn.Params, api.ErrCount, at)
		for i, kid := range kids {
			s.tell(!fits(have[i], s.types[s.p.Slots[fn.At+i]]), api.ErrType, kid)
		}
		return s.types[fn.Result]
	}
	name := s.nodes[at].Text
	want := map[string]int{"pair": 2, "read": 0}
	count, isOther := want[name]
	s.tell(isOther && len(kids) != count || !isOther && len(kids) != 1, api.ErrCount, at)
	for i, kid := range kids {
		may := have[i] == "int"
		switch name {
		case "len":
			may = have[i] == "str" || isList(have[i])
		case "text":
			may = have[i] == "int" || have[i] == "bool" || have[i] == "comp"
		case "re", "im":
			may = have[i] == "comp"
		}
		s.tell(!may, api.ErrType, kid)
	}
	switch name {
	case "text", "chr":
		return "str"
	case "pair":
		return "comp"
	}
	return "int"
}

func (s *said) index(kids []int) string {
	of, by := s.expression(kids[0]), s.expression(kids[1])
	s.tell(of != "str" && !isList(of), api.ErrType, kids[0])
	s.tell(by != "int", api.ErrType, kids[1])
	if of == "str" {
		return "int"
	}
	return of[1 : len(of)-1]
}

func (s *said) dot(at int, kids []int) string {
	is := s.expression(kids[0])
	s.tell(!isRec(is), api.ErrType, kids[0])
	rec := s.p.Recs[slices.IndexFunc(s.p.Recs, func(rec api.Rec) bool { return rec.Name == is })]
	for i := range rec.Count {
		if field := s.p.Fields[rec.From+i]; field.Name == s.nodes[at].Text {
			s.marks[at].Ref = i
			return s.types[field.Type]
		}
	}
	s.tell(true, api.ErrName, at)
	return ""
}

func (s *said) binary(at int, left, right string) string {
	both, may, is := "", false, left
	if left == right {
		both = left
	}
	switch s.nodes[at].Num {
	case api.OpAdd:
		may = both == "int" || both == "str" || both == "comp"
	case api.OpSub, api.OpMul:
		may = both == "int" || both == "comp"
	case api.OpDiv, api.OpRem:
		may = both == "int"
	case api.OpLt, api.OpLe, api.OpGt, api.OpGe:
		may, is = both == "int", "bool"
	case api.OpAnd, api.OpOr:
		may = both == "bool"
	case api.OpEq, api.OpNe:
		may = both != "none" && both != "nil" && (fits(left, right) || fits(right, left))
		is = "bool"
	}
	s.tell(!may, api.ErrType, at)
	return is
}
