package show_test

import (
	"fmt"
	"slices"
	"strings"
	"testing"

	"hindcast/api"
	"hindcast/heap"
	"hindcast/show"
)

// dice are numbers that are the same each time.
type dice uint64

func (d *dice) below(count int) int {
	*d ^= *d << 13
	*d ^= *d >> 7
	*d ^= *d << 17
	return int(uint64(*d) >> 1 % uint64(count))
}

// grownShapes are records with up to four fields.
var grownShapes = []shape{
	{"A", []string{"x"}},
	{"Empty", nil},
	{"Pair", []string{"left", "right"}},
	{"Wide", []string{"a", "b", "c", "d"}},
}

// value is one of any kind; one that names an object names mostly one that is there.
func (d *dice) value(objs []api.Obj) api.Value {
	v := api.Value{N: int64(d.below(7)) - 3, Re: int64(d.below(7)) - 3, Im: int64(d.below(7)) - 3}
	if len(objs) == 0 || d.below(3) == 0 {
		v.Kind = uint8(d.below(9))
		if v.Kind == api.StrKind && d.below(2) == 0 {
			v.N = 0
		}
		return v
	}
	v.N = int64(d.below(len(objs))) + 1
	v.Kind = objs[v.N-1].Kind
	if d.below(30) == 0 {
		v.Kind = uint8(d.below(9))
	}
	return v
}

// objects are some that name one another in any way.
func (d *dice) objects() []api.Obj {
	objs := make([]api.Obj, d.below(14))
	for at := range objs {
		objs[at].Kind = uint8([]int{api.StrKind, api.ListKind, api.RecKind, api.RecKind}[d.below(4)])
	}
	for at := range objs {
		d.fill(&objs[at], objs)
	}
	return objs
}

func (d *dice) fill(o *api.Obj, objs []api.Obj) {
	count := d.below(5)
	switch o.Kind {
	case api.StrKind:
		for range count + 1 {
			o.Text += string([]byte{byte(d.below(256))})
		}
		return
	case api.ListKind:
		o.Of = d.below(20)
	case api.RecKind:
		o.Of = d.below(len(grownShapes) + 1)
		if o.Of < len(grownShapes) && d.below(8) > 0 {
			count = len(grownShapes[o.Of].fields)
		}
	}
	for range count {
		o.Vals = append(o.Vals, d.value(objs))
	}
}

// moved are the same objects with other numbers, some others between them, and which number each one has then.
func (d *dice) moved(objs []api.Obj) ([]api.Obj, []int64) {
	places := make([]int64, len(objs))
	for at := range places {
		places[at] = int64(at) + 1
	}
	for range d.below(4) {
		places = append(places, 0)
	}
	for at := len(places) - 1; at > 0; at-- {
		other := d.below(at + 1)
		places[at], places[other] = places[other], places[at]
	}
	to := make([]int64, len(objs))
	for at, from := range places {
		if from > 0 {
			to[from-1] = int64(at) + 1
		}
	}
	other := make([]api.Obj, len(places))
	for at, from := range places {
		if from == 0 {
			other[at] = api.Obj{Kind: api.ListKind, Vals: []api.Value{{Kind: api.ListKind, N: int64(at) + 1}}}
			continue
		}
		other[at] = objs[from-1]
		other[at].Vals = nil
		for _, v := range objs[from-1].Vals {
			other[at].Vals = append(other[at].Vals, movedValue(v, objs, to))
		}
	}
	return other, to
}

// movedValue is a value with its object's other number; one that names none does so in the other heap, too.
func movedValue(v api.Value, objs []api.Obj, to []int64) api.Value {
	if v.Kind != api.StrKind && v.Kind != api.ListKind && v.Kind != api.RecKind || v.Kind == api.StrKind && v.N == 0 {
		return v
	}
	if v.N < 1 || v.N > int64(len(objs)) || objs[v.N-1].Kind != v.Kind {
		v.N = -v.N*v.N - 1
		return v
	}
	v.N = to[v.N-1]
	return v
}

// P12.1, P12.2, P12.3: heaps that are grown by chance.
func TestGrownHeaps(t *testing.T) {
	d := dice(12)
	p := program(t, grownShapes...)
	longest, agains := 0, 0
	for round := range 20000 {
		objs := d.objects()
		other, to := d.moved(objs)
		h, g := loaded(t, objs), loaded(t, other)
		s := said{shapes: grownShapes, objs: objs}
		for range 4 {
			v, x := d.value(objs), d.value(objs)
			how := fmt.Sprint("round ", round, ": ", objs)
			wantSaid(t, how, p, h, s, v)
			wantOnce(t, how, p, h, s, v)
			wantAlike(t, how, p, h, v, g, movedValue(v, objs, to), true)
			text, count := s.text(v)
			otherText, _ := s.text(x)
			wantAlike(t, how, p, h, v, g, movedValue(x, objs, to), text == otherText)
			wantAlike(t, how, p, h, v, h, x, text == otherText)
			longest = max(longest, count)
			agains += strings.Count(bare(text), "#")
		}
		if t.Failed() {
			return
		}
	}
	if longest < 10 || agains < 1000 {
		t.Errorf("only %d in a text, and %d that are met again", longest, agains)
	}
}

// bare is a text without its literals.
func bare(text string) string {
	var rest strings.Builder
	within := false
	for at := 0; at < len(text); at++ {
		switch {
		case text[at] == '"':
			within = !within
		case within && text[at] == '\\':
			at++
		case !within:
			rest.WriteByte(text[at])
		}
	}
	return rest.String()
}

// wantOnce asks for as many brackets as there are lists and records, and for no number that none of them has.
func wantOnce(t *testing.T, how string, p api.Prog, h *heap.Heap, s said, v api.Value) {
	t.Helper()
	text, _ := show.Text(p, h, v)
	_, met := s.text(v)
	text = bare(text)
	if got := strings.Count(text, "[") + strings.Count(text, "{"); got != met {
		t.Errorf("%s: Text(%v): %s: %d brackets, want %d", how, v, text, got, met)
	}
	for _, piece := range strings.Split(text, "#")[1:] {
		number := 0
		fmt.Sscanf(piece, "%d", &number)
		if number < 1 || number > met {
			t.Errorf("%s: Text(%v): %s: %d is the number of none", how, v, text, number)
		}
	}
}

func wantAlike(t *testing.T, how string, p api.Prog, h *heap.Heap, v api.Value, g *heap.Heap, x api.Value, want bool) {
	t.Helper()
	if got := show.Alike(p, h, v, g, x); got != want {
		t.Errorf("%s: Alike(%v, %v): %v", how, v, x, got)
	}
	if got := show.Alike(p, g, x, h, v); got != want {
		t.Errorf("%s: Alike(%v, %v), turned: %v", how, x, v, got)
	}
}

// P0.3, P0.5: what is asked changes neither program nor heap, and is answered likewise whatever was asked ahead of it.
func TestNothingIsChanged(t *testing.T) {
	d := dice(120)
	p, unchanged := program(t, grownShapes...), program(t, grownShapes...)
	for round := range 500 {
		objs := d.objects()
		h := loaded(t, objs)
		before, cells := h.All(), h.Cells()
		v, x := d.value(objs), d.value(objs)
		text, ok := show.Text(p, h, v)
		line, lineOk := show.Line(p, h, v)
		alike := show.Alike(p, h, v, h, x)
		show.Text(p, h, x)
		show.Line(p, h, x)
		if again, okAgain := show.Text(p, h, v); again != text || okAgain != ok {
			t.Errorf("round %d: Text(%v): %q, then %q", round, v, text, again)
		}
		if again, okAgain := show.Line(p, h, v); again != line || okAgain != lineOk {
			t.Errorf("round %d: Line(%v): %q, then %q", round, v, line, again)
		}
		if again := show.Alike(p, h, v, h, x); again != alike {
			t.Errorf("round %d: Alike(%v, %v): %v, then %v", round, v, x, alike, again)
		}
		if !slices.EqualFunc(before, h.All(), sameObj) || h.Cells() != cells {
			t.Errorf("round %d: the heap has changed: %v, then %v", round, before, h.All())
		}
	}
	if fmt.Sprint(p) != fmt.Sprint(unchanged) {
		t.Error("the program has changed")
	}
}

func sameObj(a, b api.Obj) bool {
	return a.Kind == b.Kind && a.Of == b.Of && a.Text == b.Text && slices.Equal(a.Vals, b.Vals)
}
