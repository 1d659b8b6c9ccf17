package types_test

import (
	"fmt"
	"slices"
	"strings"

	"hindcast/api"
	"hindcast/tree"
)

// said is a table with what each type is, said by itself: "int", "1" of the record number 1, "[1]" of the list of these. The chapter is said here by such keys, apart from the program, which goes by numbers.
type said struct {
	l    []api.Type
	keys []string
}

func plainKeys() []string { return []string{"none", "int", "bool", "str", "comp", "nil"} }

// saidOf is what a table says, and whether it may be.
func saidOf(l []api.Type) (said, bool) {
	if len(l) < 6 {
		return said{}, false
	}
	s := said{l: slices.Clone(l), keys: plainKeys()}
	for kind := range 6 {
		if int(l[kind].Kind) != kind || l[kind].Of != 0 {
			return said{}, false
		}
	}
	met, recs, isBehindList := map[string]int{}, 0, false
	for _, t := range l[6:] {
		key := ""
		switch t.Kind {
		case api.RecKind:
			if isBehindList || t.Of != recs || recs == api.MaxRecs {
				return said{}, false
			}
			recs++
			key = fmt.Sprint(t.Of)
		case api.ListKind:
			isBehindList = true
			if t.Of < 0 || t.Of >= len(s.keys) || slices.Contains([]string{"none", "nil"}, s.keys[t.Of]) {
				return said{}, false
			}
			key = fmt.Sprint("list of ", t.Of)
		default:
			return said{}, false
		}
		if met[key]++; met[key] > 1 {
			return said{}, false
		}
		s.keys = append(s.keys, keyOf(t, s.keys))
	}
	return s, true
}

func keyOf(t api.Type, keys []string) string {
	if t.Kind == api.ListKind {
		return "[" + keys[t.Of] + "]"
	}
	return fmt.Sprint(t.Of)
}

func (s said) has(t int) bool { return t >= 0 && t < len(s.keys) }

// with is what the table says with these keys behind its own, if they weren't there, and the last one's number.
func (s said) with(keys ...string) (said, int) {
	s, t := said{slices.Clone(s.l), slices.Clone(s.keys)}, 0
	for _, key := range keys {
		t = slices.Index(s.keys, key)
		if t < 0 {
			of := slices.Index(s.keys, key[1:len(key)-1])
			s.l, s.keys, t = append(s.l, api.Type{Kind: api.ListKind, Of: of}), append(s.keys, key), len(s.keys)
		}
	}
	return s, t
}

// list is what List answers.
func (s said) list(of int) ([]api.Type, int) {
	if !s.has(of) || s.keys[of] == "none" || s.keys[of] == "nil" {
		return s.l, 0
	}
	more, t := s.with("[" + s.keys[of] + "]")
	return more.l, t
}

// of is what Of answers.
func (s said) of(recs []string, nodes []api.Node) ([]api.Type, int) {
	innermost, depth, ok := saidTree(nodes)
	if !ok {
		return s.l, 0
	}
	key := map[uint8]string{api.KIntT: "int", api.KBoolT: "bool", api.KStrT: "str", api.KCompT: "comp"}[innermost.Kind]
	if innermost.Kind == api.KRecT {
		key = fmt.Sprint(slices.Index(recs, innermost.Text))
	}
	if !slices.Contains(s.keys, key) {
		return s.l, 0
	}
	keys := []string{key}
	for range depth {
		key = "[" + key + "]"
		keys = append(keys, key)
	}
	more, t := s.with(keys...)
	return more.l, t
}

// saidTree tells of a type's tree its innermost type, and in how many lists that stands.
func saidTree(nodes []api.Node) (innermost api.Node, depth int, ok bool) {
	if len(nodes) == 0 {
		return api.Node{}, 0, false
	}
	depth = len(nodes) - 1
	for i, n := range nodes {
		if i < depth && (n.Kind != api.KListT || n.Text != "") || n.Num != 0 || n.Size != depth-i {
			return api.Node{}, 0, false
		}
	}
	innermost = nodes[depth]
	switch innermost.Kind {
	case api.KIntT, api.KBoolT, api.KStrT, api.KCompT:
		return innermost, depth, innermost.Text == ""
	case api.KRecT:
		return innermost, depth, tree.Great(innermost.Text)
	}
	return api.Node{}, 0, false
}

func (s said) text(recs []string, t int) string {
	if !s.has(t) || t == 0 {
		return ""
	}
	name := strings.Trim(s.keys[t], "[]")
	for rec := range api.MaxRecs {
		if name == fmt.Sprint(rec) {
			if rec >= len(recs) || recs[rec] == "" {
				return ""
			}
			return strings.Replace(s.keys[t], name, recs[rec], 1)
		}
	}
	return s.keys[t]
}

// isObject tells whether it is a record or a list.
func (s said) isObject(t int) bool { return !slices.Contains(plainKeys(), s.keys[t]) }

func (s said) fits(have, want int) bool {
	if !s.has(have) || !s.has(want) {
		return false
	}
	return s.keys[have] == s.keys[want] || s.keys[have] == "nil" && s.isObject(want)
}

func (s said) zero(t int) api.Value {
	if !s.has(t) {
		return api.Value{}
	}
	kinds := map[string]uint8{"none": api.NoKind, "int": api.IntKind, "bool": api.BoolKind, "str": api.StrKind, "comp": api.CompKind}
	if kind, ok := kinds[s.keys[t]]; ok {
		return api.Value{Kind: kind}
	}
	return api.Value{Kind: api.NilKind}
}

// dice are thrown the same way each time.
type dice struct{ x uint64 }

func (d *dice) below(count int) int {
	d.x ^= d.x << 13
	d.x ^= d.x >> 7
	d.x ^= d.x << 17
	return int((d.x >> 20) % uint64(count))
}

// grown is a table that may be, with so many records, and so many lists at most.
func (d *dice) grown(recs, lists int) []api.Type {
	l := table(recs)
	for range lists {
		list := api.Type{Kind: api.ListKind, Of: d.below(len(l))}
		if l[list.Of].Kind != api.NoKind && l[list.Of].Kind != api.NilKind && !slices.Contains(l, list) {
			l = append(l, list)
		}
	}
	return l
}

// shaken is a table changed in one place: it may be, or not.
func (d *dice) shaken(l []api.Type) []api.Type {
	l = slices.Clone(l)
	at, other := d.below(len(l)), d.below(len(l))
	switch d.below(6) {
	case 0:
		l[at].Kind = uint8(d.below(10))
	case 1:
		l[at].Of = d.below(len(l)+3) - 2
	case 2:
		l[at], l[other] = l[other], l[at]
	case 3:
		l = slices.Delete(l, at, at+1)
	case 4:
		l = slices.Insert(l, at, l[other])
	case 5:
		l = append(l, api.Type{Kind: uint8(d.below(10)), Of: d.below(len(l)+3) - 2})
	}
	return l
}

// table is that of so many records, with lists behind them.
func table(recs int, lists ...int) []api.Type {
	l := []api.Type{{Kind: 0}, {Kind: 1}, {Kind: 2}, {Kind: 3}, {Kind: 4}, {Kind: 5}}
	for rec := range recs {
		l = append(l, api.Type{Kind: 6, Of: rec})
	}
	for _, of := range lists {
		l = append(l, api.Type{Kind: 7, Of: of})
	}
	return l
}

// kindNode is a type's node that isn't a list.
func kindNode(kind uint8, text string) []api.Node { return []api.Node{{Kind: kind, Text: text}} }

// listNodes is a tree in so many lists.
func listNodes(depth int, nodes []api.Node) []api.Node {
	var l []api.Node
	for i := range depth {
		l = append(l, api.Node{Kind: api.KListT, Size: depth - i - 1 + len(nodes)})
	}
	return append(l, nodes...)
}
