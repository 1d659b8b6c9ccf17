package heap_test

import (
	"fmt"
	"runtime"
	"slices"
	"testing"

	"hindcast/api"
	"hindcast/heap"
)

// spoil writes into all of a list's room, behind its end, too.
func spoil(vals []api.Value) {
	vals = vals[:cap(vals)]
	for i := range vals {
		vals[i] = api.Value{Kind: 99, N: 99, Re: 99, Im: 99}
	}
}

// withRoom are the same values with others behind their end.
func withRoom(vals []api.Value) []api.Value {
	l := slices.Concat(vals, many(3))
	return l[:len(vals)]
}

// wantUnchanged asks that a list and the room behind its end are as withRoom made them.
func wantUnchanged(t *testing.T, got []api.Value, want []api.Value) {
	t.Helper()
	if behind := got[len(got) : len(got)+3]; !slices.Equal(got, want) || !slices.Equal(behind, many(3)) {
		t.Errorf("handed in: %v and %v behind it, want %v", got, behind, want)
	}
}

func TestRecIsHandedValues(t *testing.T) { // P0.3, P11.2
	for _, size := range []int{0, 1, 2, 9} {
		h := newHeap(t, 100)
		vals := withRoom(many(size))
		one, _ := h.Rec(1, vals)
		other, _ := h.Rec(2, vals)
		l, _ := h.List(3, 2, intValue(4))
		wantUnchanged(t, vals, many(size))
		changed := many(size)
		for i := range changed {
			changed[i] = intValue(7)
			wantPut(t, h, one, int64(i), intValue(7), 0)
		}
		wantPut(t, h, l, 1, intValue(8), 0)
		wantUnchanged(t, vals, many(size))
		spoil(vals)
		wantHeap(t, "values spoilt", h, 2*size+5, recObj(1, changed...), recObj(2, many(size)...), listObj(3, intValue(4), intValue(8)))
		wantPut(t, h, other, int64(size), intValue(1), api.TrapIndex)
	}
}

func TestLoadIsHandedObjects(t *testing.T) { // P0.3, P11.2
	same, none := withRoom(many(4)), withRoom(nil)
	l := []api.Obj{listObj(1, same...), recObj(2, same...), textObj("text"), listObj(3, none...), recObj(4, same[1:3]...), {Kind: api.StrKind, Text: "b", Vals: none}, textObj("behind")}
	want := []api.Obj{listObj(1, many(4)...), recObj(2, many(4)...), textObj("text"), listObj(3), recObj(4, many(4)[1:3]...), textObj("b")}
	h := loaded(t, 50, l[:6]...)
	g := loaded(t, 50, l[:6]...)
	wantPut(t, h, listValue(1), 1, intValue(7), 0)
	wantPut(t, h, recValue(5), 1, intValue(8), 0)
	changed := slices.Clone(want)
	changed[0] = listObj(1, many(4)[0], intValue(7), many(4)[2], many(4)[3])
	changed[4] = recObj(4, many(4)[1], intValue(8))
	h.Str("more")
	wantUnchanged(t, same, many(4))
	wantUnchanged(t, none, nil)
	if !sameObjs(l[:6], want) || l[6].Text != "behind" {
		t.Errorf("handed in: %s", shown(l))
	}
	spoil(same)
	spoil(none)
	clear(l)
	wantHeap(t, "handed in, and changed", h, cellsOf(want)+2, append(changed, textObj("more"))...)
	wantHeap(t, "handed in twice", g, cellsOf(want), want...)
}

func TestAnsweredObjects(t *testing.T) { // P0.3, P11.2
	p := someObjects(t)
	one, other := p.h.All(), p.h.All()
	c := p.copy()
	third := c.h.All()
	for i := range one {
		spoil(one[i].Vals)
	}
	clear(one[:cap(one)])
	wantSaid(t, "All changed", p.h, p.s)
	wantSaid(t, "All of a copy changed", c.h, c.s)
	for i, l := range [][]api.Obj{other, third, p.h.All()} {
		if !sameObjs(l, p.s.all()) {
			t.Errorf("All, answered apart, %d: %s", i, shown(l))
		}
	}
	// What is answered doesn't change with the heap, and no two of its lists share room.
	before := p.s.all()
	for i := range before {
		before[i].Vals = slices.Clone(before[i].Vals)
	}
	p.put(t, "behind All", listValue(2), 0, intValue(5))
	p.put(t, "behind All", recValue(3), 0, intValue(5))
	c.put(t, "behind All", recValue(3), 1, intValue(6))
	for i := range other {
		other[i].Vals = append(other[i].Vals, intValue(1))[:len(other[i].Vals)]
	}
	if !sameObjs(other, before) || !sameObjs(third, before) {
		t.Errorf("All, and Put behind it: %s, %s", shown(other), shown(third))
	}
	wantSaid(t, "Put behind All", p.h, p.s)
	wantSaid(t, "Put of a copy behind All", c.h, c.s)
}

func TestAllHasNoRoomThatIsShared(t *testing.T) { // P0.3
	h := loaded(t, 30, listObj(1, many(2)...), listObj(2, many(3)...), recObj(3, many(4)...))
	l := h.All()
	for i := range l {
		l[i].Vals = append(l[i].Vals, intValue(-1))
		spoil(l[i].Vals[len(l[i].Vals):])
	}
	for i, size := range []int{2, 3, 4} {
		if !slices.Equal(l[i].Vals[:size], many(size)) {
			t.Errorf("object %d: %v", i, l[i].Vals)
		}
	}
	wantHeap(t, "appended to", h, 12, listObj(1, many(2)...), listObj(2, many(3)...), recObj(3, many(4)...))
}

// TestEmptyListsHaveNoRoom hands in empty lists with room behind their end: what is answered of them has none of it.
func TestEmptyListsHaveNoRoom(t *testing.T) { // P0.3
	none := withRoom(nil)
	h := loaded(t, 30, listObj(1, none...), recObj(2, none...), api.Obj{Kind: api.StrKind, Text: "a", Vals: none})
	h.Rec(3, none)
	h.List(4, 0, intValue(1))
	want := []api.Obj{listObj(1), recObj(2), textObj("a"), recObj(3), listObj(4)}
	one, other := h.All(), h.Copy().All()
	for i := range want {
		mine := append(one[i].Vals, intValue(1))
		theirs := append(other[i].Vals, intValue(2))
		spoil(other[i].Vals)
		if mine[0] != intValue(1) || theirs[0] != intValue(2) {
			t.Errorf("object %d: behind its end stands %v, and of another answer %v", i, mine, theirs)
		}
	}
	wantUnchanged(t, none, nil)
	wantHeap(t, "empty lists", h, 6, want...)
}

// sides are a heap and its copy, by what changes them first.
func sides(t *testing.T, try func(t *testing.T, how string, one, other pair)) {
	t.Helper()
	for _, begin := range []func() pair{
		func() pair { return someObjects(t) },
		func() pair { return newPair(t, 20) },
		func() pair { return someObjects(t).load(t, "load", 49) },
		func() pair { return someObjects(t).copy() },
		func() pair { return someObjects(t).copy().copy() },
	} {
		p := begin()
		try(t, "the first side", p, p.copy())
		p = begin()
		c := p.copy()
		try(t, "the copy's side", c, p)
	}
}

func TestCopyIsTheSame(t *testing.T) { // P11.1
	sides(t, func(t *testing.T, how string, one, other pair) {
		wantSaid(t, how, one.h, one.s)
		wantSaid(t, how+", the other one", other.h, other.s)
		if one.h == other.h {
			t.Error(how, "is itself")
		}
		left := one.s.room - len(one.s.taken)
		wantRoom(t, one.h, left)
		wantSaid(t, how+", filled up", other.h, other.s)
		wantRoom(t, other.h, left)
	})
}

func TestPutOfOneSide(t *testing.T) { // P11.2
	sides(t, func(t *testing.T, how string, one, other pair) {
		for i, v := range []api.Value{listValue(2), recValue(3), listValue(2), recValue(8), recValue(3), recValue(3)} {
			one.put(t, how, v, int64(i)%2, intValue(int64(i)))
			wantSaid(t, how, one.h, one.s)
			wantSaid(t, how+", the other one", other.h, other.s)
		}
	})
}

func TestPutOfBothSides(t *testing.T) { // P11.2
	sides(t, func(t *testing.T, how string, one, other pair) {
		for i := range int64(3) {
			for _, v := range []api.Value{listValue(2), recValue(3), listValue(7), recValue(8)} {
				one.put(t, how, v, i, intValue(i))
				other.put(t, how, v, i, intValue(-i))
				wantSaid(t, how, one.h, one.s)
				wantSaid(t, how+", the other one", other.h, other.s)
			}
		}
	})
}

// TestMadeOnBothSides makes objects on either side: the same number is another object there.
func TestMadeOnBothSides(t *testing.T) { // P11.2, P11.3
	makes := []func(p pair, how string, mark int64) api.Value{
		func(p pair, how string, mark int64) api.Value { return p.str(t, how, fmt.Sprint("text ", mark)) },
		func(p pair, how string, mark int64) api.Value { return p.list(t, how, int(mark), 2, intValue(mark)) },
		func(p pair, how string, mark int64) api.Value { return p.rec(t, how, int(mark), intValue(mark)) },
	}
	for first, makeFirst := range makes {
		for second, makeSecond := range makes {
			sides(t, func(t *testing.T, how string, one, other pair) {
				how = fmt.Sprint(how, " ", first, " ", second)
				for range 4 {
					v := makeFirst(one, how, 1)
					w := makeSecond(other, how, 2)
					one.put(t, how, v, 0, intValue(3))
					other.put(t, how, w, 0, intValue(4))
					one.put(t, how, w, 0, intValue(5))
					other.put(t, how, v, 0, intValue(6))
					wantSaid(t, how, one.h, one.s)
					wantSaid(t, how+", the other one", other.h, other.s)
				}
			})
		}
	}
}

// TestCopyOfCopy has each heap of a row copied from the one ahead, with a Put between, and changes them in any order.
func TestCopyOfCopy(t *testing.T) { // P11.2
	for _, order := range [][]int{{0, 1, 2, 3}, {3, 2, 1, 0}, {1, 3, 0, 2}, {2, 0, 3, 1}, {0, 0, 3, 3}, {1, 2, 1, 2}} {
		row := []pair{someObjects(t)}
		for i := range int64(3) {
			row = append(row, row[i].copy())
			row[i].put(t, "row", listValue(2), i, intValue(100+i))
			row[i+1].put(t, "row", recValue(3), i, intValue(200+i))
		}
		for turn, at := range order {
			mark := int64(turn)
			row[at].put(t, "order", listValue(2), 0, intValue(mark))
			row[at].put(t, "order", recValue(3), mark, intValue(mark))
			row[at].str(t, "order", fmt.Sprint("turn ", turn))
			row[at].rec(t, "order", turn, intValue(mark))
			for i, p := range row {
				wantSaid(t, fmt.Sprint("order ", order, " turn ", turn, " heap ", i), p.h, p.s)
			}
		}
	}
}

func TestThrownAway(t *testing.T) { // P11.2
	p := someObjects(t)
	for i := range int64(4) {
		c := p.copy()
		c.put(t, "a copy", listValue(2), 0, intValue(-i))
		c.str(t, "a copy", "gone")
		p.put(t, "ahead", recValue(3), i, intValue(i))
		c = pair{}
		runtime.GC()
		p.put(t, "behind", listValue(2), i%3, intValue(i))
		p.rec(t, "behind", 1)
		wantSaid(t, "thrown away", p.h, p.s)
	}
	c := p.copy()
	p = pair{}
	runtime.GC()
	c.put(t, "the copy is left", listValue(2), 1, intValue(77))
	c.list(t, "the copy is left", 1, 2, intValue(78))
	wantSaid(t, "the copy is left", c.h, c.s)
}

func TestCopyOfNone(t *testing.T) { // P11.1
	h := newHeap(t, 0)
	c := h.Copy()
	if c == nil {
		t.Fatal("a copy of a heap without a cell is nil")
	}
	wantHeap(t, "a copy of none", c, 0)
	wantRoom(t, c, 0)
	if v, ok := c.Str(""); v != strValue(0) || !ok {
		t.Error("the empty text of a copy:", v, ok)
	}
}

// TestKeptRow keeps a copy behind each change: each one stays as it was.
func TestKeptRow(t *testing.T) { // P11.2
	p := newPair(t, 200)
	p.list(t, "row", 1, 5, intValue(0))
	var row []pair
	for i := range int64(60) {
		row = append(row, p.copy())
		p.put(t, "row", listValue(1), i%5, intValue(i))
		p.rec(t, "row", int(i), intValue(i), listValue(1))
		p.put(t, "row", recValue(i+2), 0, intValue(-i))
		p.put(t, "row", recValue(i/2+2), 1, intValue(i))
	}
	for i, kept := range append(row, p) {
		wantSaid(t, fmt.Sprint("kept ", i), kept.h, kept.s)
	}
}

// TestSameAgain does the same twice: heaps that are told the same answer the same, whatever other ones were told.
func TestSameAgain(t *testing.T) { // P0.5
	var all []*heap.Heap
	for range 3 {
		p := someObjects(t)
		p.put(t, "again", listValue(2), 1, intValue(4))
		all = append(all, p.h)
	}
	for _, h := range all[1:] {
		wantHeap(t, "again", h, all[0].Cells(), all[0].All()...)
	}
}

// TestPutCopiesNoMoreThanItMust asks for the layer's way: an object is copied when it is changed and a copy has it, too; no other one, and none twice.
func TestPutCopiesNoMoreThanItMust(t *testing.T) {
	const lists = 12
	putEach := func(h *heap.Heap) float64 {
		number := int64(0)
		// What is counted is told of all runs but the first one.
		return testing.AllocsPerRun(lists-1, func() {
			number++
			h.Put(listValue(number), 1, intValue(number))
		})
	}
	wantNone := func(how string, h *heap.Heap) {
		t.Helper()
		if got := putEach(h); got != 0 {
			t.Errorf("%s: Put takes memory %v times", how, got)
		}
	}
	made := newHeap(t, 100)
	for range lists {
		made.List(1, 3, intValue(0))
	}
	objs := made.All()
	for how, h := range map[string]*heap.Heap{"made": made, "loaded": loaded(t, 100, objs...)} {
		wantNone(how, h)
		c := h.Copy()
		putEach(h)
		wantNone(how+", put behind a copy already", h)
		putEach(c)
		wantNone(how+", put in the copy already", c)
		wantNone(how+", put behind a Put in the copy", h)
	}
}
