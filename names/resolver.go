package names

import (
	"slices"

	"hindcast/api"
	"hindcast/types"
)

// resolver finds out what a program's names mean. Its steps tell whether all went well; if not, fault says what didn't.
type resolver struct {
	p     api.Prog
	fault api.Fault
	// recs are the records' names, by their numbers.
	recs []string
	inBody
}

const nowhere = -1

// refuse tells the fault at a node.
func (r *resolver) refuse(code api.Errno, at int) bool {
	r.fault = api.Fault{Code: code, Line: r.p.Nodes[at].Line, Col: r.p.Nodes[at].Col}
	return false
}

// behind is the place behind all that belongs to a node.
func (r *resolver) behind(at int) int { return at + r.p.Nodes[at].Size + 1 }

func (r *resolver) records() bool {
	for at, n := range r.p.Nodes {
		if n.Kind == api.KRec && !r.record(at) {
			return false
		}
	}
	r.p.Types = types.Base(len(r.recs))
	return true
}

func (r *resolver) record(at int) bool {
	name := r.p.Nodes[at].Text
	if len(r.recs) == api.MaxRecs {
		return r.refuse(api.ErrMany, at)
	}
	if slices.Contains(r.recs, name) {
		return r.refuse(api.ErrTwice, at)
	}
	r.p.Marks[at].Ref = len(r.recs)
	r.recs = append(r.recs, name)
	return true
}

// fields come when all records' names are known: a field may be of a record further on.
func (r *resolver) fields() bool {
	for at, n := range r.p.Nodes {
		switch n.Kind {
		case api.KRec:
			r.p.Recs = append(r.p.Recs, api.Rec{Name: n.Text, From: len(r.p.Fields)})
		case api.KField:
			if !r.field(at) {
				return false
			}
		}
	}
	return true
}

func (r *resolver) field(at int) bool {
	rec := &r.p.Recs[len(r.p.Recs)-1]
	name := r.p.Nodes[at].Text
	if rec.Count == api.MaxFields {
		return r.refuse(api.ErrMany, at)
	}
	for _, ahead := range r.p.Fields[rec.From:] {
		if ahead.Name == name {
			return r.refuse(api.ErrTwice, at)
		}
	}
	if !r.typed(at, at+1) {
		return false
	}
	r.p.Fields = append(r.p.Fields, api.Field{Name: name, Type: r.p.Marks[at].Type})
	rec.Count++
	return true
}

// typed marks a type's nodes, and the node that is of this type.
func (r *resolver) typed(at, typeAt int) bool {
	row := r.p.Nodes[typeAt:r.behind(typeAt)]
	if row[0].Kind == api.KNoneT {
		return true
	}
	table, t := types.Of(r.p.Types, r.recs, row)
	if t == api.NoKind {
		// A type has no more than one record's name: its last node.
		return r.refuse(api.ErrName, typeAt+len(row)-1)
	}
	r.p.Types = table
	r.p.Marks[at].Type = t
	for i := range row {
		r.p.Marks[typeAt+i].Type = t
		t = table[t].Of
	}
	return true
}

func (r *resolver) functions() bool {
	for at, n := range r.p.Nodes {
		if n.Kind == api.KFn && !r.function(at) {
			return false
		}
	}
	return true
}

func (r *resolver) function(at int) bool {
	name := r.p.Nodes[at].Text
	if len(r.p.Fns) == api.MaxFns {
		return r.refuse(api.ErrMany, at)
	}
	if Built(name) != 0 || r.numberOf(name) != nowhere {
		return r.refuse(api.ErrTwice, at)
	}
	params, result := r.head(at)
	for i, param := range params {
		if !r.param(param, params[:i]) {
			return false
		}
	}
	if !r.typed(at, result) {
		return false
	}
	r.p.Marks[at].Ref = len(r.p.Fns)
	r.p.Fns = append(r.p.Fns, api.Fn{Name: name, Node: at, Params: len(params), Result: r.p.Marks[at].Type})
	return true
}

// numberOf is the number of a function by its name, or nowhere.
func (r *resolver) numberOf(name string) int {
	return slices.IndexFunc(r.p.Fns, func(fn api.Fn) bool { return fn.Name == name })
}

// head tells the places of a function's parameters, and of its result behind them.
func (r *resolver) head(at int) (params []int, result int) {
	kid := at + 1
	for r.p.Nodes[kid].Kind == api.KParam {
		params = append(params, kid)
		kid = r.behind(kid)
	}
	return params, kid
}

func (r *resolver) param(at int, ahead []int) bool {
	if len(ahead) == api.MaxParams {
		return r.refuse(api.ErrMany, at)
	}
	for _, other := range ahead {
		if r.p.Nodes[other].Text == r.p.Nodes[at].Text {
			return r.refuse(api.ErrTwice, at)
		}
	}
	return r.typed(at, at+1)
}

func (r *resolver) main() bool {
	number := r.numberOf("main")
	if number == nowhere {
		r.fault = api.Fault{Code: api.ErrMain}
		return false
	}
	main := r.p.Fns[number]
	if main.Params > 0 || main.Result != api.NoKind {
		return r.refuse(api.ErrMain, main.Node)
	}
	return true
}
