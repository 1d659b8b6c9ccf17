package show_test

import (
	"fmt"
	"slices"
	"strings"
	"testing"

	"hindcast/api"
	"hindcast/check"
	"hindcast/heap"
	"hindcast/show"
)

// shape is a record as a program says it: its name and its fields', all of which are of its own type.
type shape struct {
	name   string
	fields []string
}

// program is the program of these records.
func program(t *testing.T, shapes ...shape) api.Prog {
	t.Helper()
	var text strings.Builder
	for _, s := range shapes {
		fmt.Fprintf(&text, "rec %s {", s.name)
		for _, f := range s.fields {
			fmt.Fprintf(&text, " %s: %s;", f, s.name)
		}
		text.WriteString(" }\n")
	}
	text.WriteString("fn main() {}")
	p, fault := check.Source(text.String())
	if fault.Code != api.OK {
		t.Fatalf("Source(%s): %v", text.String(), fault)
	}
	return p
}

func loaded(t *testing.T, objs []api.Obj) *heap.Heap {
	t.Helper()
	h, code := heap.Load(api.MaxHeap, objs)
	if code != api.OK {
		t.Fatalf("Load(%v): %d", objs, code)
	}
	return h
}

// said is the chapter said apart from the program: all of a text, however long that is. Whose numbers are gone through stands in met, one behind the other.
type said struct {
	shapes []shape
	objs   []api.Obj
	met    []int64
}

// text is a value's text, and how many lists and records were met.
func (s said) text(v api.Value) (string, int) {
	s.met = nil
	text := s.of(v)
	return text, len(s.met)
}

func (s said) line(v api.Value) string {
	if o, ok := s.object(v); ok && v.Kind == api.StrKind {
		return o.Text
	}
	if v.Kind == api.StrKind && v.N == 0 {
		return ""
	}
	text, _ := s.text(v)
	return text
}

func (s *said) object(v api.Value) (api.Obj, bool) {
	for at, o := range s.objs {
		if int64(at)+1 == v.N && o.Kind == v.Kind {
			return o, true
		}
	}
	return api.Obj{}, false
}

func (s *said) of(v api.Value) string {
	o, ok := s.object(v)
	switch {
	case v.Kind == api.IntKind:
		return fmt.Sprint(v.N)
	case v.Kind == api.BoolKind:
		return fmt.Sprint(v.N != 0)
	case v.Kind == api.CompKind:
		return fmt.Sprintf("%d%+di", part(v.Re), part(v.Im))
	case v.Kind == api.NilKind:
		return "nil"
	case v.Kind == api.StrKind && v.N == 0:
		return `""`
	case v.Kind == api.StrKind && ok:
		return literal(o.Text)
	case v.Kind == api.ListKind && ok:
		return s.row(v, "[", nil, o.Vals, "]")
	case v.Kind == api.RecKind && ok && o.Of < len(s.shapes) && len(s.shapes[o.Of].fields) == len(o.Vals):
		shape := s.shapes[o.Of]
		return s.row(v, shape.name+"{", shape.fields, o.Vals, "}")
	}
	return "?"
}

func (s *said) row(v api.Value, first string, names []string, vals []api.Value, last string) string {
	if at := slices.Index(s.met, v.N); at >= 0 {
		return fmt.Sprintf("#%d", at+1)
	}
	s.met = append(s.met, v.N)
	var texts []string
	for at, x := range vals {
		text := s.of(x)
		if names != nil {
			text = names[at] + ": " + text
		}
		texts = append(texts, text)
	}
	return first + strings.Join(texts, ", ") + last
}

// part is what goes round to 24 bits.
func part(n int64) int64 {
	const all = int64(1) << 24
	n = (n%all + all) % all
	if n >= api.MaxGauss {
		return n - all
	}
	return n
}

func literal(text string) string {
	s := `"`
	for _, b := range []byte(text) {
		switch {
		case b == '\n':
			s += `\n`
		case b == '\t':
			s += `\t`
		case b == '"' || b == '\\':
			s += `\` + string(rune(b))
		case b < 32 || b > 126:
			s += fmt.Sprintf(`\x%02x`, b)
		default:
			s += string(rune(b))
		}
	}
	return s + `"`
}

// cut is what is answered for a text that may be too long.
func cut(text string) (string, bool) {
	if len(text) > api.MaxOut {
		return "", false
	}
	return text, true
}

// wantSaid asks for a value's text and line.
func wantSaid(t *testing.T, how string, p api.Prog, h *heap.Heap, s said, v api.Value) {
	t.Helper()
	text, _ := s.text(v)
	want, wantOk := cut(text)
	if got, ok := show.Text(p, h, v); got != want || ok != wantOk {
		t.Errorf("%s: Text(%v): %.200q, %v, want %.200q, %v", how, v, got, ok, want, wantOk)
	}
	want, wantOk = cut(s.line(v))
	if got, ok := show.Line(p, h, v); got != want || ok != wantOk {
		t.Errorf("%s: Line(%v): %.200q, %v, want %.200q, %v", how, v, got, ok, want, wantOk)
	}
}

// rows are all rows of so many values.
func rows(vals []api.Value, count int) [][]api.Value {
	all := [][]api.Value{nil}
	for range count {
		var longer [][]api.Value
		for _, row := range all {
			for _, v := range vals {
				longer = append(longer, append(slices.Clone(row), v))
			}
		}
		all = longer
	}
	return all
}

// things are a text, and all lists and records of at most so many of these values; the last number of a record is none of the program's.
func things(vals []api.Value, most, records int) []api.Obj {
	all := []api.Obj{{Kind: api.StrKind, Text: "a\n"}}
	for count := range most + 1 {
		for _, row := range rows(vals, count) {
			all = append(all, api.Obj{Kind: api.ListKind, Of: 1, Vals: row})
			for of := range records + 1 {
				all = append(all, api.Obj{Kind: api.RecKind, Of: of, Vals: row})
			}
		}
	}
	return all
}

// P12.1, P12.3: all heaps of two objects that have at most two values, of three that have one, and all values of each.
func TestAllShortHeaps(t *testing.T) {
	shapes := []shape{{"P", []string{"one", "two"}}, {"Q", []string{"n"}}, {"None", nil}}
	p := program(t, shapes...)
	two := []api.Value{{Kind: api.IntKind, N: 7}, {Kind: api.StrKind, N: 1}}
	one := []api.Value{{Kind: api.NilKind}, {Kind: api.StrKind, N: 2}}
	for n := range int64(3) {
		for _, kind := range []uint8{api.ListKind, api.RecKind} {
			if n < 2 {
				two = append(two, api.Value{Kind: kind, N: n + 1})
			}
			one = append(one, api.Value{Kind: kind, N: n + 1})
		}
	}
	hold := func(objs []api.Obj, vals []api.Value) {
		h, s := loaded(t, objs), said{shapes: shapes, objs: objs}
		for _, v := range vals {
			wantSaid(t, fmt.Sprint(objs), p, h, s, v)
		}
	}
	for _, a := range things(two, 2, len(shapes)) {
		for _, b := range things(two, 2, len(shapes)) {
			hold([]api.Obj{a, b}, two)
		}
		if t.Failed() {
			return
		}
	}
	for _, a := range things(one, 1, len(shapes)) {
		for _, b := range things(one, 1, len(shapes)) {
			for _, c := range things(one, 1, len(shapes)) {
				hold([]api.Obj{a, b, c}, one)
			}
		}
		if t.Failed() {
			return
		}
	}
}
