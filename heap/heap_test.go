package heap_test

import (
	"fmt"
	"math"
	"strings"
	"testing"

	"hindcast/api"
	"hindcast/heap"
)

func strValue(n int64) api.Value  { return api.Value{Kind: api.StrKind, N: n} }
func listValue(n int64) api.Value { return api.Value{Kind: api.ListKind, N: n} }
func recValue(n int64) api.Value  { return api.Value{Kind: api.RecKind, N: n} }
func intValue(n int64) api.Value  { return api.Value{Kind: api.IntKind, N: n} }

func textObj(text string) api.Obj { return api.Obj{Kind: api.StrKind, Text: text} }
func listObj(of int, vals ...api.Value) api.Obj {
	return api.Obj{Kind: api.ListKind, Of: of, Vals: vals}
}
func recObj(of int, vals ...api.Value) api.Obj {
	return api.Obj{Kind: api.RecKind, Of: of, Vals: vals}
}

// many are so many values, each another one, with parts that play no part in names.
func many(count int) []api.Value {
	var vals []api.Value
	for i := range int64(count) {
		vals = append(vals, api.Value{Kind: uint8(i % 9), N: i * i, Re: i, Im: -i})
	}
	return vals
}

// newHeap is an empty heap.
func newHeap(t *testing.T, cells int) *heap.Heap {
	t.Helper()
	return newPair(t, cells).h
}

func loaded(t *testing.T, cells int, l ...api.Obj) *heap.Heap {
	t.Helper()
	h, code := heap.Load(cells, l)
	if h == nil || code != api.OK {
		t.Fatalf("Load(%d, %s): %v, %d", cells, shown(l), h, code)
	}
	return h
}

// wantHeap asks how many cells are taken, and for all objects.
func wantHeap(t *testing.T, how string, h *heap.Heap, cells int, l ...api.Obj) {
	t.Helper()
	if got := h.Cells(); got != cells {
		t.Errorf("%s: Cells: %d, want %d", how, got, cells)
	}
	if got := h.All(); !sameObjs(got, l) {
		t.Errorf("%s: All: %s, want %s", how, shown(got), shown(l))
	}
}

// wantValue asks for a value that is made, or for none.
func wantValue(t *testing.T, how string, got api.Value, ok bool, want api.Value) {
	t.Helper()
	if got != want || ok != (want.Kind != api.NoKind) {
		t.Errorf("%s: %v, %v, want %v", how, got, ok, want)
	}
}

func wantGet(t *testing.T, h *heap.Heap, v api.Value, i int64, want api.Value, wantTrap uint8) {
	t.Helper()
	if got, trap := h.Get(v, i); got != want || trap != wantTrap {
		t.Errorf("Get(%v, %d): %v, %d, want %v, %d", v, i, got, trap, want, wantTrap)
	}
}

func wantPut(t *testing.T, h *heap.Heap, v api.Value, i int64, x api.Value, want uint8) {
	t.Helper()
	if got := h.Put(v, i, x); got != want {
		t.Errorf("Put(%v, %d, %v): %d, want %d", v, i, x, got, want)
	}
}

// wantNamesNone asks all of a value that names no object and isn't the empty text.
func wantNamesNone(t *testing.T, h *heap.Heap, v api.Value) {
	t.Helper()
	if text, ok := h.Text(v); text != "" || ok {
		t.Errorf("Text(%v): %q, %v", v, text, ok)
	}
	if size, trap := h.Size(v); size != 0 || trap != api.TrapNil {
		t.Errorf("Size(%v): %d, %d", v, size, trap)
	}
	if of := h.Of(v); of != 0 {
		t.Errorf("Of(%v): %d", v, of)
	}
	for _, i := range indices(3) {
		wantGet(t, h, v, i, api.Value{}, api.TrapNil)
		wantPut(t, h, v, i, intValue(1), api.TrapNil)
	}
}

func wantRefused(t *testing.T, cells int, l []api.Obj, want api.Errno) {
	t.Helper()
	if h, code := heap.Load(cells, l); h != nil || code != want {
		t.Errorf("Load(%d, %s): %v, %d, want %d", cells, shown(l), h, code, want)
	}
}

func TestExamples(t *testing.T) { // P11.1, P11.3
	h := newHeap(t, 3)
	v, ok := h.Str("nineBytes")
	wantValue(t, "Str", v, ok, strValue(1))
	wantHeap(t, "behind nine letters", h, 3, textObj("nineBytes"))
	v, ok = h.List(1, 0, intValue(0))
	wantValue(t, "List", v, ok, api.Value{})
	wantHeap(t, "without room", h, 3, textObj("nineBytes"))
}

func TestRooms(t *testing.T) { // P11.1
	for _, cells := range []int{math.MinInt, -1 << 32, -2, -1, api.MaxHeap + 1, api.MaxHeap + 2, 1 << 32, 1<<32 + 1, math.MaxInt} {
		if h, code := heap.New(cells); h != nil || code != api.ErrArg {
			t.Errorf("New(%d): %v, %d", cells, h, code)
		}
		wantRefused(t, cells, nil, api.ErrArg)
		wantRefused(t, cells, []api.Obj{}, api.ErrArg)
		wantRefused(t, cells, []api.Obj{textObj("a")}, api.ErrArg)
		wantRefused(t, cells, []api.Obj{{}}, api.ErrArg)
	}
	for _, cells := range []int{0, 1, 2, 255, 256, api.MaxHeap - 1, api.MaxHeap} {
		p := newPair(t, cells)
		wantSaid(t, "new", p.h, p.s)
		wantHeap(t, "loaded with nil", loaded(t, cells), 0)
		wantHeap(t, "loaded with none", loaded(t, cells, []api.Obj{}...), 0)
		wantRoom(t, loaded(t, cells), cells)
		wantRoom(t, p.h, cells)
	}
}

// wantRoom fills a heap up, and asks that just so many cells were left.
func wantRoom(t *testing.T, h *heap.Heap, left int) {
	t.Helper()
	had := h.Cells()
	if v, ok := h.List(0, left, api.Value{}); ok {
		t.Errorf("a list of %d had room: %v", left, v)
	}
	for range left {
		if _, ok := h.Rec(0, nil); !ok {
			t.Fatalf("no room for one of %d empty records", left)
		}
	}
	if v, ok := h.Rec(0, nil); ok {
		t.Errorf("more room than for %d empty records: %v", left, v)
	}
	if got := h.Cells(); got != had+left {
		t.Errorf("Cells: %d, want %d", got, had+left)
	}
}

func TestLoadKinds(t *testing.T) { // P11.1
	for kind := range 256 {
		for _, o := range []api.Obj{{Text: "a"}, {Vals: many(2)}, {}, {Of: 3, Vals: many(1)}} {
			o.Kind = uint8(kind)
			isText := o.Kind == api.StrKind && o.Text != ""
			isList := (o.Kind == api.ListKind || o.Kind == api.RecKind) && o.Text == ""
			for _, l := range [][]api.Obj{{o}, {textObj("b"), o}, {o, recObj(0)}} {
				if !isText && !isList {
					wantRefused(t, 100, l, api.ErrArg)
					continue
				}
				wantHeap(t, "a kind that may be", loaded(t, 100, l...), cellsOf(l), l...)
			}
		}
	}
}

// cellsOf is how many cells objects take.
func cellsOf(l []api.Obj) int {
	cells := 0
	for _, o := range l {
		cells += 1 + len(o.Vals) + int(math.Ceil(float64(len(o.Text))/8))
	}
	return cells
}

func TestLoadWrong(t *testing.T) { // P11.1
	fits, tooMany := listObj(1, many(4)...), listObj(1, many(11)...)
	for _, o := range []api.Obj{
		{Kind: api.StrKind}, {Kind: api.StrKind, Vals: []api.Value{}}, {Kind: api.StrKind, Of: 1},
		{Kind: api.StrKind, Text: "a", Of: 1}, {Kind: api.StrKind, Text: "a", Of: -1}, {Kind: api.StrKind, Text: "a", Of: math.MinInt}, {Kind: api.StrKind, Text: "a", Of: math.MaxInt}, {Kind: api.StrKind, Text: "a", Of: 1 << 32},
		{Kind: api.StrKind, Text: "a", Vals: many(1)}, {Kind: api.StrKind, Vals: many(1)}, {Kind: api.StrKind, Text: "a", Vals: many(20)},
		{Kind: api.ListKind, Text: "a"}, {Kind: api.ListKind, Text: "a", Vals: many(2)}, {Kind: api.RecKind, Text: "a"}, {Kind: api.RecKind, Text: "\x00", Of: 2, Vals: many(2)},
		{Kind: api.ListKind, Of: -1}, {Kind: api.ListKind, Of: math.MinInt, Vals: many(1)}, {Kind: api.RecKind, Of: -1}, {Kind: api.RecKind, Of: math.MinInt}, {Kind: api.RecKind, Of: -1 << 32},
		{}, {Kind: api.NilKind}, {Kind: api.IntKind}, {Kind: 8}, {Kind: 255},
	} {
		// What may not be is told ahead of there being no room, wherever it stands.
		for _, l := range [][]api.Obj{{o}, {fits, o}, {o, fits}, {tooMany, o}, {o, tooMany}, {fits, fits, fits, fits, o}, {tooMany, o, tooMany}} {
			wantRefused(t, 10, l, api.ErrArg)
			wantRefused(t, 0, l, api.ErrArg)
			wantRefused(t, api.MaxHeap, l, api.ErrArg)
			wantRefused(t, -1, l, api.ErrArg)
			wantRefused(t, api.MaxHeap+1, l, api.ErrArg)
		}
	}
}

func TestLoadFull(t *testing.T) { // P11.1, P11.3
	for _, c := range []struct {
		l     []api.Obj
		cells int
	}{
		{[]api.Obj{textObj("a")}, 2}, {[]api.Obj{textObj("1234567")}, 2}, {[]api.Obj{textObj("12345678")}, 2}, {[]api.Obj{textObj("123456789")}, 3},
		{[]api.Obj{textObj(strings.Repeat("a", 16))}, 3}, {[]api.Obj{textObj(strings.Repeat("a", 17))}, 4},
		{[]api.Obj{listObj(0)}, 1}, {[]api.Obj{recObj(0)}, 1}, {[]api.Obj{listObj(math.MaxInt, many(1)...)}, 2}, {[]api.Obj{recObj(7, many(9)...)}, 10},
		{[]api.Obj{listObj(1), textObj("abc"), recObj(2, many(3)...), recObj(2, many(3)...), textObj("abcdefghi"), listObj(1)}, 15},
		{[]api.Obj{listObj(1, many(api.MaxHeap-2)...)}, api.MaxHeap - 1}, {[]api.Obj{listObj(1, many(api.MaxHeap-1)...)}, api.MaxHeap},
		{[]api.Obj{recObj(1, many(100)...), textObj(strings.Repeat("b", 8*api.MaxHeap-8*102))}, api.MaxHeap},
	} {
		for less := 1; less <= min(c.cells, 9); less++ {
			wantRefused(t, c.cells-less, c.l, api.ErrFull)
		}
		wantRefused(t, 0, c.l, api.ErrFull)
		for _, more := range []int{0, 1, 2, 9} {
			if c.cells+more <= api.MaxHeap {
				h := loaded(t, c.cells+more, c.l...)
				wantHeap(t, "loaded", h, c.cells, c.l...)
				wantRoom(t, h, more)
			}
		}
	}
	wantRefused(t, api.MaxHeap, []api.Obj{listObj(1, many(api.MaxHeap)...)}, api.ErrFull)
	wantRefused(t, api.MaxHeap, []api.Obj{textObj(strings.Repeat("c", 8*api.MaxHeap-7))}, api.ErrFull)
	wantRefused(t, api.MaxHeap, make([]api.Obj, api.MaxHeap+1), api.ErrArg)
	loaded(t, api.MaxHeap, textObj(strings.Repeat("c", 8*api.MaxHeap-8)))
	lists := make([]api.Obj, api.MaxHeap+1)
	for i := range lists {
		lists[i].Kind = api.ListKind
	}
	wantRefused(t, api.MaxHeap, lists, api.ErrFull)
	wantHeap(t, "as many lists as may be", loaded(t, api.MaxHeap, lists[1:]...), api.MaxHeap, lists[1:]...)
}

// TestLoadedIsAsked asks everything of what was loaded, and of what is made behind it.
func TestLoadedIsAsked(t *testing.T) { // P11.1
	p := newPair(t, 60)
	p.s.str("\x00\x80\xff")
	p.s.list(5, 4, api.Value{Kind: 200, N: -3, Re: 1, Im: 2})
	p.s.rec(0, many(10))
	p.s.list(0, 0, api.Value{})
	p.s.str(strings.Repeat("long ", 9))
	p.s.rec(math.MaxInt, nil)
	q := p.load(t, "load", 40)
	wantSaid(t, "loaded", q.h, q.s)
	q.str(t, "behind load", "more")
	q.list(t, "behind load", 1, 3, intValue(1))
	q.put(t, "behind load", listValue(2), 3, intValue(9))
	q.put(t, "behind load", recValue(3), 0, intValue(8))
	q.rec(t, "behind load", 1, many(9)...)
	wantSaid(t, "loaded, and more", q.h, q.s)
}

// room tries something in a heap with just as many cells left as are wanted, with more, and with fewer; some are taken ahead, or none.
func room(t *testing.T, how string, wanted int, try func(h *heap.Heap) (api.Value, bool), o api.Obj) {
	t.Helper()
	for _, ahead := range []int{0, 1, 5} {
		var first []api.Obj
		for range ahead {
			first = append(first, listObj(3))
		}
		for _, more := range []int{0, 1, 8} {
			h := loaded(t, ahead+wanted+more, first...)
			v, ok := try(h)
			wantValue(t, how, v, ok, api.Value{Kind: o.Kind, N: int64(ahead) + 1})
			wantHeap(t, how, h, ahead+wanted, append(first[:ahead:ahead], o)...)
			wantRoom(t, h, more)
		}
		for fewer := 1; fewer <= wanted; fewer++ {
			h := loaded(t, ahead+wanted-fewer, first...)
			v, ok := try(h)
			wantValue(t, how+", refused", v, ok, api.Value{})
			wantHeap(t, how+", refused", h, ahead, first...)
			wantRoom(t, h, wanted-fewer)
		}
	}
}

func TestStr(t *testing.T) { // P11.1, P11.3
	for size, cells := range map[int]int{1: 2, 2: 2, 7: 2, 8: 2, 9: 3, 15: 3, 16: 3, 17: 4, 23: 4, 24: 4, 25: 5, 800: 101, 801: 102} {
		text := strings.Repeat("\x00a\xffb", size)[:size]
		room(t, fmt.Sprint("Str of ", size), cells, func(h *heap.Heap) (api.Value, bool) { return h.Str(text) }, textObj(text))
	}
	for _, cells := range []int{0, 1, 9} {
		h := newHeap(t, cells)
		for range 3 {
			v, ok := h.Str("")
			wantValue(t, "Str of nothing", v, ok, strValue(0))
			wantHeap(t, "Str of nothing", h, 0)
		}
		wantRoom(t, h, cells)
		v, ok := h.Str("")
		wantValue(t, "Str of nothing in a full heap", v, ok, strValue(0))
	}
	h := newHeap(t, api.MaxHeap)
	v, ok := h.Str(strings.Repeat("x", 8*(api.MaxHeap-1)+1))
	wantValue(t, "Str of too many", v, ok, api.Value{})
	v, ok = h.Str(strings.Repeat("x", 8*(api.MaxHeap-1)))
	wantValue(t, "Str of as many as may be", v, ok, strValue(1))
	v, ok = h.Str("x")
	wantValue(t, "Str behind as many as may be", v, ok, api.Value{})
	if text, ok := h.Text(strValue(1)); len(text) != 8*(api.MaxHeap-1) || !ok || h.Cells() != api.MaxHeap {
		t.Error("as many as may be:", len(text), ok, h.Cells())
	}
}

func TestSameTextTwice(t *testing.T) { // P11.1
	p := newPair(t, 20)
	for range 5 {
		p.str(t, "again", "same")
		p.str(t, "again", "")
	}
	wantSaid(t, "again", p.h, p.s)
	wantHeap(t, "again", p.h, 10, textObj("same"), textObj("same"), textObj("same"), textObj("same"), textObj("same"))
}

func TestList(t *testing.T) { // P11.1, P11.3
	zero := api.Value{Kind: api.CompKind, N: 4, Re: -2, Im: 3}
	for _, n := range []int{0, 1, 2, 7, 8, 9, 100} {
		for _, of := range []int{0, 1, 300, math.MaxInt} {
			var vals []api.Value
			for range n {
				vals = append(vals, zero)
			}
			room(t, fmt.Sprint("List of ", n), n+1, func(h *heap.Heap) (api.Value, bool) { return h.List(of, n, zero) }, listObj(of, vals...))
		}
	}
	wantNoList(t, newHeap(t, 0))
	wantNoList(t, newHeap(t, 10))
	wantNoList(t, newHeap(t, api.MaxHeap))
	wantNoList(t, loaded(t, 10, listObj(0, many(9)...)))
	h := newHeap(t, api.MaxHeap)
	v, ok := h.List(3, api.MaxHeap-1, zero)
	wantValue(t, "List of as many as may be", v, ok, listValue(1))
	wantGet(t, h, v, api.MaxHeap-2, zero, 0)
	wantGet(t, h, v, api.MaxHeap-1, api.Value{}, api.TrapIndex)
}

// wantNoList asks for lists and records that may not be, or are too great for any room.
func wantNoList(t *testing.T, h *heap.Heap) {
	t.Helper()
	had, all := h.Cells(), h.All()
	for _, c := range [][2]int{
		{0, -1}, {0, -2}, {1, math.MinInt}, {0, -1 << 32}, {-1, 0}, {-1, 1}, {-1, -1}, {math.MinInt, 0}, {math.MinInt, 2}, {-1 << 32, 0}, {math.MinInt, math.MinInt},
		{0, math.MaxInt}, {0, math.MaxInt - 1}, {1, math.MaxInt - 7}, {1, math.MaxInt / 32}, {1, 1 << 32}, {1, api.MaxHeap}, {1, api.MaxHeap + 1}, {-1, math.MaxInt}, {math.MaxInt, math.MaxInt},
	} {
		v, ok := h.List(c[0], c[1], intValue(1))
		wantValue(t, fmt.Sprint("List ", c), v, ok, api.Value{})
		wantHeap(t, "refused", h, had, all...)
		if c[0] < 0 {
			for _, vals := range [][]api.Value{nil, {}, many(1), many(20)} {
				v, ok := h.Rec(c[0], vals)
				wantValue(t, fmt.Sprint("Rec ", c[0]), v, ok, api.Value{})
				wantHeap(t, "refused", h, had, all...)
			}
		}
	}
	v, ok := h.Rec(0, many(api.MaxHeap))
	wantValue(t, "Rec of too many", v, ok, api.Value{})
	wantHeap(t, "refused", h, had, all...)
}

func TestRec(t *testing.T) { // P11.1, P11.3
	for _, n := range []int{0, 1, 2, 7, 8, 9, 100} {
		for _, of := range []int{0, 1, 300, math.MaxInt} {
			vals := many(n)
			room(t, fmt.Sprint("Rec of ", n), n+1, func(h *heap.Heap) (api.Value, bool) { return h.Rec(of, vals) }, recObj(of, many(n)...))
		}
	}
	room(t, "Rec of nil", 1, func(h *heap.Heap) (api.Value, bool) { return h.Rec(1, nil) }, recObj(1))
	room(t, "Rec of none", 1, func(h *heap.Heap) (api.Value, bool) { return h.Rec(1, []api.Value{}) }, recObj(1))
	h := newHeap(t, api.MaxHeap)
	v, ok := h.Rec(3, many(api.MaxHeap-1))
	wantValue(t, "Rec of as many as may be", v, ok, recValue(1))
	wantHeap(t, "Rec of as many as may be", h, api.MaxHeap, recObj(3, many(api.MaxHeap-1)...))
}

// someObjects are of each kind: empty ones, short ones, and such with values that name others, themselves, or nothing.
func someObjects(t *testing.T) pair {
	t.Helper()
	p := newPair(t, 50)
	p.str(t, "some", "a text")
	p.list(t, "some", 4, 3, listValue(2))
	p.rec(t, "some", 2, recValue(3), listValue(2), strValue(1), strValue(0), api.Value{Kind: api.CompKind, Re: 1, Im: -1}, api.Value{Kind: api.NilKind})
	p.list(t, "some", 1, 0, api.Value{})
	p.rec(t, "some", 9)
	p.str(t, "some", "\x00\x7f\x80\xff a longer one")
	p.list(t, "some", 0, 1, api.Value{Kind: 77, N: math.MinInt64, Re: math.MaxInt64, Im: math.MinInt64})
	p.rec(t, "some", 0, listValue(99))
	return p
}

func TestAsked(t *testing.T) { // P11.1
	p := someObjects(t)
	wantSaid(t, "some", p.h, p.s)
	for _, v := range []api.Value{recValue(1), listValue(1), strValue(2), recValue(2), strValue(3), listValue(3), strValue(-1), listValue(0), recValue(0), listValue(-2), strValue(9), recValue(9), intValue(1), intValue(0), {Kind: api.NilKind}, {Kind: api.BoolKind, N: 1}, {Kind: api.CompKind, N: 2}, {N: 2}, {}} {
		wantNamesNone(t, p.h, v)
	}
	wantSaid(t, "asked", p.h, p.s)
}

func TestBytes(t *testing.T) { // P11.1
	var every strings.Builder
	for b := range 256 {
		every.WriteByte(byte(b))
	}
	h := newHeap(t, 40)
	v, ok := h.Str(every.String())
	wantValue(t, "Str of every byte", v, ok, strValue(1))
	for b := range int64(256) {
		wantGet(t, h, v, b, intValue(b), 0)
	}
	if text, ok := h.Text(v); text != every.String() || !ok {
		t.Errorf("Text of every byte: %q, %v", text, ok)
	}
}

func TestEmptyText(t *testing.T) { // P11.1
	for _, cells := range []int{0, 5} {
		h := newHeap(t, cells)
		for _, v := range []api.Value{strValue(0), {Kind: api.StrKind, Re: 7, Im: -1}} {
			if text, ok := h.Text(v); text != "" || !ok {
				t.Errorf("Text(%v): %q, %v", v, text, ok)
			}
			if size, trap := h.Size(v); size != 0 || trap != 0 {
				t.Errorf("Size(%v): %d, %d", v, size, trap)
			}
			if of := h.Of(v); of != 0 {
				t.Errorf("Of(%v): %d", v, of)
			}
			for _, i := range indices(0) {
				wantGet(t, h, v, i, api.Value{}, api.TrapIndex)
				wantPut(t, h, v, i, intValue(1), api.TrapNil)
			}
		}
		wantHeap(t, "the empty text", h, 0)
	}
}

// TestPut puts everywhere: each place of each object has the last value that was put there, and no other one changes.
func TestPut(t *testing.T) { // P11.1, P11.2
	p := someObjects(t)
	mark := int64(0)
	for _, v := range values(len(p.s.things)) {
		size := 0
		if x, ok := p.s.meant(v); ok {
			size = len(x.parts)
		}
		for _, i := range indices(size) {
			mark++
			p.put(t, "everywhere", v, i, api.Value{Kind: uint8(mark), N: -mark, Re: mark * 3, Im: mark * 5})
			wantThere(t, fmt.Sprint("put ", v, i), p.h, p.s)
		}
	}
	wantSaid(t, "put everywhere", p.h, p.s)
	wantPut(t, p.h, strValue(1), 0, intValue('b'), api.TrapNil)
	wantPut(t, p.h, strValue(1), 99, intValue('b'), api.TrapNil)
	wantPut(t, p.h, listValue(2), math.MaxInt64, intValue(1), api.TrapIndex)
	wantPut(t, p.h, listValue(2), math.MinInt64, intValue(1), api.TrapIndex)
	wantPut(t, p.h, listValue(4), 0, intValue(1), api.TrapIndex)
	wantPut(t, p.h, recValue(5), 0, intValue(1), api.TrapIndex)
	wantSaid(t, "refused", p.h, p.s)
}

func TestManyObjects(t *testing.T) { // P11.2, P11.3
	p := newPair(t, api.MaxHeap)
	for i := range api.MaxHeap / 2 {
		p.list(t, "many", i, 1, intValue(int64(i)))
	}
	p.list(t, "no room", 0, 0, api.Value{})
	for n := int64(1); n <= api.MaxHeap/2; n += 3 {
		p.put(t, "many", listValue(n), 0, intValue(-n))
	}
	wantHeap(t, "many", p.h, api.MaxHeap, p.s.all()...)
	for n := range int64(api.MaxHeap/2 + 2) {
		for _, i := range []int64{-1, 0, 1} {
			want, trap := p.s.get(listValue(n), i)
			wantGet(t, p.h, listValue(n), i, want, trap)
		}
	}
}

func TestNil(t *testing.T) { // P11.1
	var h *heap.Heap
	for _, text := range []string{"", "a", "nineBytes"} {
		v, ok := h.Str(text)
		wantValue(t, "Str", v, ok, api.Value{})
	}
	for _, n := range []int{math.MinInt, -1, 0, 1, math.MaxInt} {
		v, ok := h.List(0, n, intValue(1))
		wantValue(t, "List", v, ok, api.Value{})
		v, ok = h.List(n, 0, intValue(1))
		wantValue(t, "List", v, ok, api.Value{})
		v, ok = h.Rec(n, nil)
		wantValue(t, "Rec", v, ok, api.Value{})
		v, ok = h.Rec(n, many(2))
		wantValue(t, "Rec", v, ok, api.Value{})
	}
	for _, v := range values(2) {
		wantNamesNone(t, h, v)
	}
	wantHeap(t, "nil", h, 0)
	if c := h.Copy(); c != nil {
		t.Errorf("Copy: %v", c)
	}
}
