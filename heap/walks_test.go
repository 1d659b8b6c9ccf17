package heap_test

import (
	"fmt"
	"strings"
	"testing"

	"hindcast/api"
	"hindcast/heap"
)

// pair is a heap, and what is said of it.
type pair struct {
	h *heap.Heap
	s *said
}

func newPair(t *testing.T, room int) pair {
	t.Helper()
	h, code := heap.New(room)
	if h == nil || code != api.OK {
		t.Fatalf("New(%d): %v, %d", room, h, code)
	}
	return pair{h, saidNew(room)}
}

func (p pair) str(t *testing.T, how, text string) api.Value {
	t.Helper()
	want, told := p.s.str(text)
	got, ok := p.h.Str(text)
	if got != want || ok != told {
		t.Errorf("%s: Str(%s): %v, %v, want %v, %v", how, shown(text), got, ok, want, told)
	}
	return want
}

func (p pair) list(t *testing.T, how string, of, n int, zero api.Value) api.Value {
	t.Helper()
	want, told := p.s.list(of, n, zero)
	got, ok := p.h.List(of, n, zero)
	if got != want || ok != told {
		t.Errorf("%s: List(%d, %d, %v): %v, %v, want %v, %v", how, of, n, zero, got, ok, want, told)
	}
	return want
}

func (p pair) rec(t *testing.T, how string, of int, vals ...api.Value) api.Value {
	t.Helper()
	want, told := p.s.rec(of, vals)
	got, ok := p.h.Rec(of, vals)
	if got != want || ok != told {
		t.Errorf("%s: Rec(%d, %s): %v, %v, want %v, %v", how, of, shown(vals), got, ok, want, told)
	}
	return want
}

func (p pair) put(t *testing.T, how string, v api.Value, i int64, x api.Value) {
	t.Helper()
	want := p.s.put(v, i, x)
	if got := p.h.Put(v, i, x); got != want {
		t.Errorf("%s: Put(%v, %d, %v): %d, want %d", how, v, i, x, got, want)
	}
}

func (p pair) copy() pair { return pair{p.h.Copy(), p.s.copy()} }

// load is a heap of all that there is, in another room.
func (p pair) load(t *testing.T, how string, room int) pair {
	t.Helper()
	other := p.s.copy()
	other.room = room
	h, code := heap.Load(room, p.s.all())
	want := api.OK
	if room < 0 {
		want = api.ErrArg
	} else if len(other.taken) > room {
		want = api.ErrFull
	}
	if code != want || (h != nil) != (want == api.OK) {
		t.Fatalf("%s: Load(%d): %v, %d, want %d", how, room, h, code, want)
	}
	if want != api.OK {
		return p
	}
	return pair{h, other}
}

// steps is how many things may be done to a heap by their numbers, as do tells them.
const steps = 9

// do does a step to the heap of a place; there may be more or fewer heaps then.
func do(t *testing.T, how string, all []pair, at, step int, mark int64) []pair {
	t.Helper()
	p := all[at]
	x := api.Value{Kind: uint8(mark % 9), N: mark, Re: -mark, Im: mark * mark}
	first, last := api.Value{Kind: api.ListKind, N: 1, Im: mark}, api.Value{Kind: api.RecKind, N: int64(len(p.s.things)), Re: mark}
	switch step {
	case 0:
		p.str(t, how, "ninebytes"[:mark%10])
	case 1:
		p.list(t, how, int(mark), 2, x)
	case 2:
		p.rec(t, how, int(mark), x, x)
	case 3:
		p.put(t, how, first, mark%2, x)
	case 4:
		p.put(t, how, last, 1, x)
	case 5:
		p.put(t, how, api.Value{Kind: api.StrKind, N: 1}, 0, x)
	case 6:
		return append(all, p.copy())
	case 7:
		if len(all) > 1 {
			return append(append([]pair{}, all[:at]...), all[at+1:]...)
		}
	case 8:
		all[at] = p.load(t, how, p.s.room+1)
	}
	return all
}

// TestAllShortWalks does all rows of steps, on any of the heaps that there are then: a copy's copy, too. P11.1, P11.2, P11.3
func TestAllShortWalks(t *testing.T) {
	for _, room := range []int{0, 4, 7} {
		t.Run(fmt.Sprint("room ", room), func(t *testing.T) {
			t.Parallel()
			shortWalks(t, room, nil, 4)
		})
	}
}

// shortWalks goes a way again from its begin, and then on all the ways that there are behind it: where at most three heaps are at once, each way's next step is one of so many on one of these.
func shortWalks(t *testing.T, room int, way []int, left int) {
	t.Helper()
	all := []pair{newPair(t, room)}
	// Something must be there first: a way that begins with steps that are refused only is told once.
	if room > 0 {
		all[0].list(t, "at first", 1, 2, api.Value{})
	}
	for i, turn := range way {
		how := fmt.Sprint("room ", room, " way ", way[:i+1])
		all = do(t, how, all, turn/steps, turn%steps, int64(i)+2)
	}
	for i, p := range all {
		wantThere(t, fmt.Sprint("room ", room, " way ", way, " heap ", i), p.h, p.s)
	}
	if left == 0 || t.Failed() {
		return
	}
	for turn := range len(all) * steps {
		if turn%steps == 6 && len(all) == 3 || turn%steps == 7 && len(all) == 1 {
			continue
		}
		shortWalks(t, room, append(way[:len(way):len(way)], turn), left-1)
	}
}

// dice are thrown the same way each time.
type dice struct{ x uint64 }

func (d *dice) below(count int) int {
	d.x ^= d.x << 13
	d.x ^= d.x >> 7
	d.x ^= d.x << 17
	return int((d.x >> 20) % uint64(count))
}

// value is any one: a heap doesn't ask what is put into it.
func (d *dice) value() api.Value {
	return api.Value{Kind: uint8(d.below(9)), N: int64(d.below(40)) - 5, Re: int64(d.below(1000)), Im: -int64(d.below(1000))}
}

func (d *dice) text() string {
	var text strings.Builder
	for range d.below(20) {
		text.WriteByte(byte(d.below(256)))
	}
	return text.String()
}

// object is a value that may name one of so many.
func (d *dice) object(objs int) api.Value {
	kinds := []uint8{api.ListKind, api.ListKind, api.RecKind, api.RecKind, api.StrKind, api.NilKind}
	v := d.value()
	v.Kind, v.N = kinds[d.below(len(kinds))], int64(d.below(objs+2))
	return v
}

// turn does anything to one of the heaps.
func (d *dice) turn(t *testing.T, how string, all []pair) []pair {
	t.Helper()
	at := d.below(len(all))
	p := all[at]
	switch d.below(12) {
	case 0:
		p.str(t, how, d.text())
	case 1:
		p.list(t, how, d.below(9)-1, d.below(9)-1, d.value())
	case 2:
		vals := make([]api.Value, d.below(6))
		for i := range vals {
			vals[i] = d.value()
		}
		p.rec(t, how, d.below(9)-1, vals...)
	case 3:
		if len(all) < 6 {
			return append(all, p.copy())
		}
	case 4:
		if len(all) > 1 {
			all[at] = all[len(all)-1]
			return all[:len(all)-1]
		}
	case 5:
		all[at] = p.load(t, how, len(p.s.taken)+d.below(20)-3)
	default:
		p.put(t, how, d.object(len(p.s.things)), int64(d.below(8))-1, d.value())
	}
	return all
}

func TestLongWalks(t *testing.T) { // P11.1, P11.2, P11.3
	d := &dice{x: 11}
	for walk := range 150 {
		all := []pair{newPair(t, d.below(120))}
		for turn := range 150 {
			how := fmt.Sprint("walk ", walk, " turn ", turn)
			all = d.turn(t, how, all)
			for i, p := range all {
				wantThere(t, fmt.Sprint(how, " heap ", i), p.h, p.s)
			}
			if t.Failed() {
				return
			}
		}
		for _, p := range all {
			wantSaid(t, fmt.Sprint("walk ", walk), p.h, p.s)
		}
	}
}
