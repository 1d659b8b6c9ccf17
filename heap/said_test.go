package heap_test

import (
	"fmt"
	"math"
	"slices"
	"testing"

	"hindcast/api"
	"hindcast/heap"
)

// name is what an object is named by: all of a value that plays a part.
type name struct {
	kind uint8
	n    int64
}

// thing is an object as it is said: its elements, each byte of a text one of them.
type thing struct {
	of    int
	parts []api.Value
}

// said is a heap as the chapter says it, apart from the program: each taken cell stands in a row, and each object in a map by its name. A copy has all of it anew.
type said struct {
	room   int
	taken  []struct{}
	things map[name]thing
}

func saidNew(room int) *said { return &said{room: room, things: map[name]thing{}} }

func (s *said) copy() *said {
	c := &said{room: s.room, taken: slices.Clone(s.taken), things: map[name]thing{}}
	for n, x := range s.things {
		c.things[n] = thing{of: x.of, parts: slices.Clone(x.parts)}
	}
	return c
}

func (s *said) lay(kind uint8, of int, parts []api.Value) (api.Value, bool) {
	wanted := []struct{}{{}}
	for at := range parts {
		if kind != api.StrKind || at%8 == 0 {
			wanted = append(wanted, struct{}{})
		}
	}
	if len(s.taken)+len(wanted) > s.room {
		return api.Value{}, false
	}
	s.taken = append(s.taken, wanted...)
	n := name{kind, int64(len(s.things)) + 1}
	s.things[n] = thing{of: of, parts: slices.Clone(parts)}
	return api.Value{Kind: kind, N: n.n}, true
}

func (s *said) str(text string) (api.Value, bool) {
	if text == "" {
		return api.Value{Kind: api.StrKind}, true
	}
	return s.lay(api.StrKind, 0, bytesOf(text))
}

func (s *said) list(of, n int, zero api.Value) (api.Value, bool) {
	if of < 0 || n < 0 || n > s.room {
		return api.Value{}, false
	}
	return s.lay(api.ListKind, of, slices.Repeat([]api.Value{zero}, n))
}

func (s *said) rec(of int, vals []api.Value) (api.Value, bool) {
	if of < 0 {
		return api.Value{}, false
	}
	return s.lay(api.RecKind, of, vals)
}

func (s *said) put(v api.Value, i int64, x api.Value) uint8 {
	at, ok := s.things[name{v.Kind, v.N}]
	if !ok || v.Kind == api.StrKind {
		return api.TrapNil
	}
	for place := range at.parts {
		if int64(place) == i {
			at.parts[place] = x
			return 0
		}
	}
	return api.TrapIndex
}

// meant is the thing that a value is, and whether it is one.
func (s *said) meant(v api.Value) (thing, bool) {
	n := name{v.Kind, v.N}
	if n == (name{api.StrKind, 0}) {
		return thing{}, true
	}
	x, ok := s.things[n]
	return x, ok
}

func (s *said) get(v api.Value, i int64) (api.Value, uint8) {
	x, ok := s.meant(v)
	if !ok {
		return api.Value{}, api.TrapNil
	}
	for place, part := range x.parts {
		if int64(place) == i {
			return part, 0
		}
	}
	return api.Value{}, api.TrapIndex
}

func (s *said) all() []api.Obj {
	l := make([]api.Obj, len(s.things))
	for n, x := range s.things {
		o := api.Obj{Kind: n.kind, Of: x.of, Vals: x.parts}
		if n.kind == api.StrKind {
			o.Text, o.Vals = textOf(x.parts), nil
		}
		l[n.n-1] = o
	}
	return l
}

// bytesOf are a text's bytes as they are got.
func bytesOf(text string) []api.Value {
	var parts []api.Value
	for _, b := range []byte(text) {
		parts = append(parts, api.Value{Kind: api.IntKind, N: int64(b)})
	}
	return parts
}

func textOf(parts []api.Value) string {
	var text []byte
	for _, part := range parts {
		text = append(text, byte(part.N))
	}
	return string(text)
}

// sameObjs tells whether two lists of objects are the same; a nil list is the same as an empty one.
func sameObjs(a, b []api.Obj) bool {
	return slices.EqualFunc(a, b, func(x, y api.Obj) bool {
		return x.Kind == y.Kind && x.Of == y.Of && x.Text == y.Text && slices.Equal(x.Vals, y.Vals)
	})
}

// values are all that may be asked of a heap of so many objects: of each kind, and of kinds that aren't, with numbers that are there and that aren't. Re and Im are anything.
func values(objs int) []api.Value {
	numbers := []int64{math.MinInt64, -1 << 32, -2, -1, 1 << 32, 1<<32 + 1, math.MaxInt64}
	for n := range objs + 3 {
		numbers = append(numbers, int64(n))
	}
	var all []api.Value
	for _, kind := range []uint8{0, 1, 2, 3, 4, 5, 6, 7, 8, 131, 134, 135, 255} {
		for _, n := range numbers {
			all = append(all, api.Value{Kind: kind, N: n, Re: n - 1, Im: int64(kind) - n})
		}
	}
	return all
}

// indices are those that may be asked of so many parts: each one, and some that aren't there.
func indices(size int) []int64 {
	all := []int64{math.MinInt64, math.MinInt64 + 1, -1 << 32, -2, -1, int64(size) + 1, 256, 1 << 32, 1<<32 + 1, math.MaxInt64}
	for i := range size + 1 {
		all = append(all, int64(i))
	}
	return all
}

// fewIndices are each part's, and the nearest to either side.
func fewIndices(size int) []int64 {
	var all []int64
	for i := range size + 2 {
		all = append(all, int64(i)-1)
	}
	return all
}

// wantSaid asks everything of a heap: all must be as it is said.
func wantSaid(t *testing.T, how string, h *heap.Heap, s *said) {
	t.Helper()
	wantThere(t, how, h, s)
	for _, v := range values(len(s.things)) {
		wantAsked(t, how, h, s, v, indices)
	}
}

// wantThere asks a heap of all that is there, and of little else.
func wantThere(t *testing.T, how string, h *heap.Heap, s *said) {
	t.Helper()
	if got := h.Cells(); got != len(s.taken) {
		t.Errorf("%s: Cells: %d, want %d", how, got, len(s.taken))
	}
	if got := h.All(); !sameObjs(got, s.all()) {
		t.Errorf("%s: All: %s, want %s", how, shown(got), shown(s.all()))
	}
	for n := range int64(len(s.things) + 2) {
		for _, kind := range []uint8{api.StrKind, api.RecKind, api.ListKind} {
			wantAsked(t, how, h, s, api.Value{Kind: kind, N: n}, fewIndices)
		}
	}
}

// wantAsked asks everything of one value.
func wantAsked(t *testing.T, how string, h *heap.Heap, s *said, v api.Value, indices func(int) []int64) {
	t.Helper()
	x, ok := s.meant(v)
	text, isText := "", ok && v.Kind == api.StrKind
	if isText {
		text = textOf(x.parts)
	}
	if got, is := h.Text(v); got != text || is != isText {
		t.Errorf("%s: Text(%v): %q, %v, want %q, %v", how, v, got, is, text, isText)
	}
	trap := uint8(api.TrapNil)
	if ok {
		trap = 0
	}
	if got, code := h.Size(v); got != len(x.parts) || code != trap {
		t.Errorf("%s: Size(%v): %d, %d, want %d, %d", how, v, got, code, len(x.parts), trap)
	}
	if got := h.Of(v); got != x.of {
		t.Errorf("%s: Of(%v): %d, want %d", how, v, got, x.of)
	}
	for _, i := range indices(len(x.parts)) {
		want, wantCode := s.get(v, i)
		if got, code := h.Get(v, i); got != want || code != wantCode {
			t.Errorf("%s: Get(%v, %d): %v, %d, want %v, %d", how, v, i, got, code, want, wantCode)
		}
	}
}

// shown is something cut short: it may be long.
func shown(what any) string { return fmt.Sprintf("%.400s", fmt.Sprintf("%+v", what)) }
