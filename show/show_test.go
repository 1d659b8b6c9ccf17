package show_test

import (
	"fmt"
	"math"
	"slices"
	"strings"
	"testing"

	"hindcast/api"
	"hindcast/check"
	"hindcast/heap"
	"hindcast/show"
)

func intValue(n int64) api.Value       { return api.Value{Kind: api.IntKind, N: n} }
func boolValue(n int64) api.Value      { return api.Value{Kind: api.BoolKind, N: n} }
func strValue(n int64) api.Value       { return api.Value{Kind: api.StrKind, N: n} }
func compValue(re, im int64) api.Value { return api.Value{Kind: api.CompKind, Re: re, Im: im} }
func recValue(n int64) api.Value       { return api.Value{Kind: api.RecKind, N: n} }
func listValue(n int64) api.Value      { return api.Value{Kind: api.ListKind, N: n} }

var nilValue = api.Value{Kind: api.NilKind}

func textObj(text string) api.Obj { return api.Obj{Kind: api.StrKind, Text: text} }
func listObj(vals ...api.Value) api.Obj {
	return api.Obj{Kind: api.ListKind, Of: api.IntKind, Vals: vals}
}
func recObj(of int, vals ...api.Value) api.Obj {
	return api.Obj{Kind: api.RecKind, Of: of, Vals: vals}
}

// source is the program that a text is.
func source(t *testing.T, text string) api.Prog {
	t.Helper()
	p, fault := check.Source(text)
	if fault.Code != api.OK {
		t.Fatalf("Source(%.200s): %v", text, fault)
	}
	return p
}

// few is a program with a record of each number of fields up to two.
func few(t *testing.T) api.Prog {
	t.Helper()
	return source(t, "rec None {} rec P { n: P; } rec Two { a: int; long_name: [Two]; } fn main() {}")
}

// wantText asks for a value's text, and for the same as its line.
func wantText(t *testing.T, p api.Prog, h *heap.Heap, v api.Value, want string) {
	t.Helper()
	if got, ok := show.Text(p, h, v); got != want || !ok {
		t.Errorf("Text(%v): %.300q, %v, want %.300q", v, got, ok, want)
	}
	if v.Kind != api.StrKind || want == "?" {
		wantLine(t, p, h, v, want)
	}
}

func wantLine(t *testing.T, p api.Prog, h *heap.Heap, v api.Value, want string) {
	t.Helper()
	if got, ok := show.Line(p, h, v); got != want || !ok {
		t.Errorf("Line(%v): %.300q, %v, want %.300q", v, got, ok, want)
	}
}

// wantLong asks for what is answered of a value whose text is too long.
func wantLong(t *testing.T, how string, p api.Prog, h *heap.Heap, v api.Value) {
	t.Helper()
	if got, ok := show.Text(p, h, v); got != "" || ok {
		t.Errorf("%s: Text(%v): %d bytes, %v", how, v, len(got), ok)
	}
	if v.Kind != api.StrKind {
		if got, ok := show.Line(p, h, v); got != "" || ok {
			t.Errorf("%s: Line(%v): %d bytes, %v", how, v, len(got), ok)
		}
	}
}

// P12.1: what has no object.
func TestTextOfPlainValues(t *testing.T) {
	p, h := few(t), loaded(t, nil)
	for _, c := range []struct {
		v    api.Value
		want string
	}{
		{intValue(0), "0"},
		{intValue(7), "7"},
		{intValue(-1), "-1"},
		{intValue(-120), "-120"},
		{intValue(math.MaxInt64), "9223372036854775807"},
		{intValue(math.MinInt64), "-9223372036854775808"},
		{boolValue(0), "false"},
		{boolValue(1), "true"},
		{boolValue(2), "true"},
		{boolValue(-1), "true"},
		{boolValue(256), "true"},
		{boolValue(1 << 32), "true"},
		{boolValue(math.MinInt64), "true"},
		{compValue(0, 0), "0+0i"},
		{compValue(1, 2), "1+2i"},
		{compValue(-1, 2), "-1+2i"},
		{compValue(1, -2), "1-2i"},
		{compValue(-1, -2), "-1-2i"},
		{compValue(0, 1), "0+1i"},
		{compValue(0, -1), "0-1i"},
		{compValue(-30, 0), "-30+0i"},
		{compValue(api.MaxGauss-1, -api.MaxGauss), "8388607-8388608i"},
		{compValue(-api.MaxGauss, api.MaxGauss-1), "-8388608+8388607i"},
		{compValue(api.MaxGauss, 2*api.MaxGauss), "-8388608+0i"},
		{nilValue, "nil"},
		{strValue(0), `""`},
	} {
		wantText(t, p, h, c.v, c.want)
		wantText(t, api.Prog{}, h, c.v, c.want)
	}
	wantLine(t, p, h, strValue(0), "")
}

// P12.1: texts of each byte, by itself and all at once.
func TestTextOfTexts(t *testing.T) {
	p := few(t)
	var all []byte
	for b := range 256 {
		text := string([]byte{byte(b)})
		all = append(all, byte(b))
		h := loaded(t, []api.Obj{textObj(text), listObj(strValue(1), strValue(0), strValue(1))})
		wantText(t, p, h, strValue(1), literal(text))
		wantLine(t, p, h, strValue(1), text)
		wantText(t, p, h, listValue(2), "["+literal(text)+`, "", `+literal(text)+"]")
	}
	h := loaded(t, []api.Obj{textObj("it \"is\"\\\n\té\x7f"), textObj(string(all)), recObj(1, strValue(1))})
	wantText(t, p, h, strValue(1), `"it \"is\"\\\n\t\xc3\xa9\x7f"`)
	wantLine(t, p, h, strValue(1), "it \"is\"\\\n\té\x7f")
	wantText(t, p, h, strValue(2), literal(string(all)))
	wantLine(t, p, h, strValue(2), string(all))
	wantText(t, p, h, recValue(3), `P{n: "it \"is\"\\\n\t\xc3\xa9\x7f"}`)
}

// P12.1: lists and records of none, of one, of many.
func TestTextOfListsAndRecords(t *testing.T) {
	p := few(t)
	h := loaded(t, []api.Obj{
		listObj(),
		listObj(intValue(-5)),
		listObj(intValue(1), boolValue(0), nilValue, compValue(0, 3), strValue(0)),
		recObj(0),
		recObj(1, nilValue),
		recObj(2, intValue(4), listValue(1)),
		listObj(recValue(4), recValue(5), recValue(6)),
		recObj(2, boolValue(1), listValue(3)),
		{Kind: api.ListKind, Of: 1 << 40, Vals: []api.Value{recValue(5)}},
	})
	wantText(t, p, h, listValue(1), "[]")
	wantText(t, p, h, listValue(2), "[-5]")
	wantText(t, p, h, listValue(3), `[1, false, nil, 0+3i, ""]`)
	wantText(t, p, h, recValue(4), "None{}")
	wantText(t, p, h, recValue(5), "P{n: nil}")
	wantText(t, p, h, recValue(6), "Two{a: 4, long_name: []}")
	wantText(t, p, h, listValue(7), "[None{}, P{n: nil}, Two{a: 4, long_name: []}]")
	wantText(t, p, h, recValue(8), `Two{a: true, long_name: [1, false, nil, 0+3i, ""]}`)
	wantText(t, p, h, listValue(9), "[P{n: nil}]")
}

// P12.1: a list of many elements, a record of many fields, and many records, each with its own fields.
func TestTextOfMany(t *testing.T) {
	var vals []api.Value
	var digits, fields, pieces []string
	for n := range int64(9000) {
		vals = append(vals, intValue(n))
		digits = append(digits, fmt.Sprint(n))
	}
	for n := range api.MaxFields {
		fields = append(fields, fmt.Sprintf("f%d", n))
		pieces = append(pieces, fmt.Sprintf("f%d: %d", n, n))
	}
	var shapes []shape
	for n := range api.MaxRecs {
		shapes = append(shapes, shape{fmt.Sprintf("R%d", n), fields[:n]})
	}
	shapes[0].fields = fields
	objs := []api.Obj{listObj(vals...)}
	for n, s := range shapes {
		objs = append(objs, recObj(n, vals[:len(s.fields)]...))
	}
	p, h := program(t, shapes...), loaded(t, objs)
	wantText(t, p, h, listValue(1), "["+strings.Join(digits, ", ")+"]")
	for n, s := range shapes {
		wantText(t, p, h, recValue(int64(n)+2), s.name+"{"+strings.Join(pieces[:len(s.fields)], ", ")+"}")
	}
}

// P12.3: what is met again.
func TestTextOfWhatIsMetAgain(t *testing.T) {
	p := few(t)
	h := loaded(t, []api.Obj{
		listObj(listValue(1)),
		recObj(1, recValue(2)),
		listObj(),
		listObj(listValue(3), listValue(3), listValue(3)),
		listObj(listValue(6), listValue(5), listValue(6)),
		listObj(listValue(6), listValue(5)),
		recObj(1, recValue(8)),
		recObj(1, recValue(7)),
		recObj(2, recValue(7), listValue(10)),
		listObj(recValue(9), recValue(8), recValue(7), listValue(10), listValue(3)),
		recObj(0),
		listObj(recValue(11), recValue(11), strValue(13), strValue(13), recValue(11)),
		textObj("x"),
		listObj(listValue(3), listValue(15), listValue(3)),
		listObj(),
	})
	wantText(t, p, h, listValue(1), "[#1]")
	wantText(t, p, h, recValue(2), "P{n: #1}")
	wantText(t, p, h, listValue(4), "[[], #2, #2]")
	wantText(t, p, h, listValue(5), "[[#2, #1], #1, #2]")
	wantText(t, p, h, listValue(6), "[#1, [#1, #2, #1]]")
	wantText(t, p, h, recValue(7), "P{n: P{n: #1}}")
	wantText(t, p, h, recValue(9), "Two{a: P{n: P{n: #2}}, long_name: [#1, #3, #2, #4, []]}")
	wantText(t, p, h, listValue(10), "[Two{a: P{n: P{n: #3}}, long_name: #1}, #4, #3, #1, []]")
	wantText(t, p, h, listValue(12), `[None{}, #2, "x", "x", #2]`)
	wantText(t, p, h, listValue(14), "[[], [], #2]")
}

// P12.3: numbers of two digits, and an outer one ahead of what is in it.
func TestTextOfMoreThanNine(t *testing.T) {
	p := few(t)
	var objs []api.Obj
	outer := listObj()
	for n := range int64(12) {
		objs = append(objs, listObj(intValue(n)))
		outer.Vals = append(outer.Vals, listValue(n+1))
	}
	for n := range int64(12) {
		outer.Vals = append(outer.Vals, listValue(12-n))
	}
	outer.Vals = append(outer.Vals, listValue(13))
	h := loaded(t, append(objs, outer))
	wantText(t, p, h, listValue(13), "[[0], [1], [2], [3], [4], [5], [6], [7], [8], [9], [10], [11], #13, #12, #11, #10, #9, #8, #7, #6, #5, #4, #3, #2, #1]")
	// Each one in the one ahead, which stands behind it once more.
	objs = nil
	for n := range int64(11) {
		objs = append(objs, recObj(2, recValue(n+2), recValue(n+1)))
	}
	h = loaded(t, append(objs, recObj(0)))
	want := strings.Repeat("Two{a: ", 11) + "None{}"
	for n := range 11 {
		want += fmt.Sprintf(", long_name: #%d}", 11-n)
	}
	wantText(t, p, h, recValue(1), want)
}

// P12.1: what is of no kind, names no object, or is no record of the program, at the top and within.
func TestTextOfWhatIsUnknown(t *testing.T) {
	p := few(t)
	objs := []api.Obj{
		textObj("x"), listObj(), recObj(0),
		recObj(3), recObj(3, nilValue), recObj(1<<40, nilValue),
		recObj(0, nilValue), recObj(1), recObj(1, nilValue, nilValue), recObj(2, nilValue), recObj(2, nilValue, nilValue, nilValue),
	}
	var vals []api.Value
	for _, kind := range []uint8{api.NoKind, 8, 9, 128, 255} {
		vals = append(vals, api.Value{Kind: kind}, api.Value{Kind: kind, N: 1, Re: 2, Im: 3})
	}
	far := int64(len(objs)) + 3
	vals = append(vals, listValue(0), recValue(0), strValue(2), strValue(3), listValue(1), listValue(3), recValue(1), recValue(2))
	for _, n := range []int64{-1, -2, -3, far, far + 1, math.MaxInt64, math.MinInt64, 1<<32 + 1, 1<<32 + 2, 1<<32 + 3} {
		vals = append(vals, strValue(n), listValue(n), recValue(n))
	}
	for n := int64(4); n <= int64(len(objs)); n++ {
		vals = append(vals, recValue(n))
	}
	for _, v := range vals {
		within := append(slices.Clone(objs), listObj(v, nilValue, v), recObj(2, v, listValue(2)))
		h := loaded(t, within)
		wantText(t, p, h, v, "?")
		wantText(t, p, h, listValue(far-2), "[?, nil, ?]")
		wantText(t, p, h, recValue(far-1), "Two{a: ?, long_name: []}")
		if show.Alike(p, h, v, h, nilValue) || !show.Alike(p, h, v, h, api.Value{}) {
			t.Errorf("Alike of %v", v)
		}
	}
}

// P12.1: in a program without records there is none.
func TestTextWithoutRecords(t *testing.T) {
	h := loaded(t, []api.Obj{recObj(0), recObj(0, nilValue), recObj(1, nilValue), listObj(recValue(1), intValue(1), recValue(2), recValue(3), listValue(4))})
	for _, p := range []api.Prog{source(t, "fn main() {}"), {}} {
		for n := range int64(3) {
			wantText(t, p, h, recValue(n+1), "?")
		}
		wantText(t, p, h, listValue(4), "[?, 1, ?, ?, #1]")
	}
}

// P12.1: what is unknown has no number, and leaves those of the others.
func TestUnknownHasNoNumber(t *testing.T) {
	p := few(t)
	h := loaded(t, []api.Obj{
		recObj(1),
		recObj(7, listValue(3)),
		listObj(intValue(3)),
		listObj(recValue(1), recValue(2), listValue(3), recValue(1), recValue(2), listValue(9), listValue(3), recValue(5), recValue(5), listValue(4)),
		recObj(1, recValue(1)),
	})
	wantText(t, p, h, listValue(4), "[?, ?, [3], ?, ?, ?, #2, P{n: ?}, #3, #1]")
	wantText(t, p, h, recValue(2), "?")
}

// P12.1: Re and Im play a part in complex numbers alone, and N none in these and in nil.
func TestPartsThatPlayNone(t *testing.T) {
	p := few(t)
	objs := []api.Obj{textObj("x"), listObj(), recObj(0)}
	for _, v := range []api.Value{intValue(5), boolValue(0), boolValue(1), nilValue, strValue(0), strValue(1), listValue(2), recValue(3), listValue(0), {}} {
		plain := loaded(t, append(slices.Clone(objs), listObj(v, listValue(2), v)))
		want, _ := show.Text(p, plain, v)
		wantWithin, _ := show.Text(p, plain, listValue(4))
		wantOwn, _ := show.Line(p, plain, v)
		for _, n := range []int64{-1, 1, math.MaxInt64, math.MinInt64} {
			v.Re, v.Im = n, -n
			if v.Kind == api.NilKind {
				v.N = n
			}
			h := loaded(t, append(slices.Clone(objs), listObj(v, listValue(2), v)))
			wantText(t, p, h, v, want)
			wantLine(t, p, h, v, wantOwn)
			wantText(t, p, h, listValue(4), wantWithin)
			wantText(t, p, h, api.Value{Kind: api.ListKind, N: 4, Re: n, Im: n}, wantWithin)
		}
	}
	h := loaded(t, []api.Obj{listObj(), listObj(listValue(1), api.Value{Kind: api.ListKind, N: 1, Re: 8, Im: 9})})
	wantText(t, p, h, listValue(2), "[[], #2]")
	for _, n := range []int64{-1, 1, math.MaxInt64, math.MinInt64} {
		wantText(t, p, h, api.Value{Kind: api.CompKind, N: n, Re: 1, Im: -1}, "1-1i")
	}
}

// P0.1: a nil heap has no object.
func TestNilHeap(t *testing.T) {
	p := few(t)
	for _, c := range []struct {
		v    api.Value
		want string
	}{
		{intValue(-3), "-3"}, {boolValue(4), "true"}, {compValue(2, -2), "2-2i"}, {nilValue, "nil"},
		{strValue(1), "?"}, {strValue(-1), "?"}, {listValue(0), "?"}, {listValue(1), "?"}, {recValue(0), "?"}, {recValue(1), "?"}, {api.Value{}, "?"},
		// Layer 11 has no text in a nil heap, not even the empty one.
		{strValue(0), "?"},
	} {
		wantText(t, p, nil, c.v, c.want)
		wantLine(t, p, nil, c.v, c.want)
		wantText(t, api.Prog{}, nil, c.v, c.want)
	}
	if !show.Alike(p, nil, strValue(1), loaded(t, nil), listValue(1)) || show.Alike(p, nil, nilValue, nil, listValue(1)) {
		t.Error("Alike in a nil heap")
	}
}

// P12.1: the line of a text is its bytes, of all else its text.
func TestLine(t *testing.T) {
	p := few(t)
	h := loaded(t, []api.Obj{textObj("\"a\"\n"), listObj(strValue(1), strValue(0)), recObj(1, strValue(1))})
	for _, c := range []struct {
		v    api.Value
		want string
	}{
		{strValue(1), "\"a\"\n"}, {strValue(0), ""}, {strValue(2), "?"}, {strValue(-1), "?"}, {strValue(4), "?"},
		{intValue(0), "0"}, {boolValue(1), "true"}, {compValue(-1, 1), "-1+1i"}, {nilValue, "nil"}, {api.Value{}, "?"},
		{listValue(2), `["\"a\"\n", ""]`}, {recValue(3), `P{n: "\"a\"\n"}`}, {listValue(1), "?"}, {recValue(2), "?"},
	} {
		wantLine(t, p, h, c.v, c.want)
	}
}

// The document's examples.
func TestExamples(t *testing.T) {
	p := source(t, "rec P { n: P; } fn main() {}")
	h, _ := heap.New(100)
	own, _ := h.List(api.ListKind, 1, nilValue)
	h.Put(own, 0, own)
	wantText(t, p, h, own, "[#1]")
	r, _ := h.Rec(0, []api.Value{nilValue})
	wantText(t, p, h, r, "P{n: nil}")
}
