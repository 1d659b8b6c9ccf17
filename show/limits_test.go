package show_test

import (
	"slices"
	"strings"
	"testing"

	"hindcast/api"
	"hindcast/heap"
	"hindcast/show"
)

// wantBoth asks for a text of just so many bytes as may be, of the first value, and for none of the second one, whose text has a byte more.
func wantBoth(t *testing.T, how string, p api.Prog, objs []api.Obj, just, more api.Value, want string) {
	t.Helper()
	if len(want) != api.MaxOut {
		t.Fatalf("%s: the test is wrong: %d bytes", how, len(want))
	}
	h := loaded(t, objs)
	if got, ok := show.Text(p, h, just); got != want || !ok {
		t.Errorf("%s: Text(%v): %d bytes, %v", how, just, len(got), ok)
	}
	wantLong(t, how, p, h, more)
	wantAlike(t, how, p, h, just, loaded(t, objs), just, true)
	wantAlike(t, how, p, h, more, loaded(t, objs), more, false)
	wantAlike(t, how, p, h, more, h, just, false)
}

func many(v api.Value, count int) []api.Value { return slices.Repeat([]api.Value{v}, count) }

// P12.1: a text of as many bytes as may be, and of one more.
func TestMostOfOneText(t *testing.T) {
	p := few(t)
	plain := strings.Repeat("a", api.MaxOut-2)
	wantBoth(t, "plain", p, []api.Obj{textObj(plain), textObj(plain + "a")}, strValue(1), strValue(2), `"`+plain+`"`)
	dark := strings.Repeat("\x01", api.MaxOut/4-1)
	objs := []api.Obj{textObj("aa" + dark), textObj("aaa" + dark), textObj(dark + "\naa")}
	wantBoth(t, "dark", p, objs, strValue(1), strValue(2), `"aa`+strings.Repeat(`\x01`, len(dark))+`"`)
	wantLong(t, "dark", p, loaded(t, objs), strValue(3))
	huge := strings.Repeat("\xff", 8*(api.MaxHeap-1))
	h := loaded(t, []api.Obj{textObj(huge)})
	wantLong(t, "huge", p, h, strValue(1))
	if got, ok := show.Line(p, h, strValue(1)); got != "" || ok {
		t.Errorf("Line of the longest text: %d bytes, %v", len(got), ok)
	}
}

// P12.1: a line of as many bytes as may be, and of one more; how long its literal is plays no part.
func TestMostOfALine(t *testing.T) {
	p := few(t)
	for _, b := range []string{"a", "\n", "\x00", "\xff", `"`} {
		just, more := strings.Repeat(b, api.MaxOut), strings.Repeat(b, api.MaxOut+1)
		h := loaded(t, []api.Obj{textObj(just), textObj(more)})
		wantLine(t, p, h, strValue(1), just)
		if got, ok := show.Line(p, h, strValue(2)); got != "" || ok {
			t.Errorf("Line of one byte more: %d bytes, %v", len(got), ok)
		}
		wantLong(t, "as its text", p, h, strValue(1))
		wantAlike(t, "as its text", p, h, strValue(1), h, strValue(1), false)
	}
}

// P12.1: long lists; what is one byte longer than the rest stands first, in the middle, last.
func TestMostOfALongList(t *testing.T) {
	p := few(t)
	const count = api.MaxOut / 3
	want := "[10" + strings.Repeat(", 1", count-1) + "]"
	vals := many(intValue(1), count)
	vals[0] = intValue(10)
	for _, at := range []int{0, 1, count / 2, count - 1} {
		longer := slices.Clone(vals)
		longer[at].N *= 10
		wantBoth(t, "a list", p, []api.Obj{listObj(vals...), listObj(longer...)}, listValue(1), listValue(2), want)
	}
	all := listObj(many(boolValue(1), api.MaxHeap-1)...)
	wantLong(t, "the longest list", p, loaded(t, []api.Obj{all}), listValue(1))
}

// P12.1: one long text, with others ahead of it and behind.
func TestMostWithOneTooLong(t *testing.T) {
	p := few(t)
	plain := strings.Repeat("b", api.MaxOut-8)
	objs := []api.Obj{
		textObj(plain), textObj(plain + "b"), listObj(),
		listObj(strValue(1), listValue(3)), listObj(strValue(2), listValue(3)),
		listObj(listValue(3), strValue(1)), listObj(listValue(3), strValue(2)),
	}
	wantBoth(t, "first", p, objs, listValue(4), listValue(5), `["`+plain+`", []]`)
	wantBoth(t, "last", p, objs, listValue(6), listValue(7), `[[], "`+plain+`"]`)
	plain = plain[4:]
	objs = []api.Obj{
		textObj(plain), textObj(plain + "b"), listObj(strValue(1)), listObj(strValue(2)),
		recObj(1, listValue(3)), recObj(1, listValue(4)), listObj(recValue(5)), listObj(recValue(6)),
	}
	wantBoth(t, "within", p, objs, listValue(7), listValue(8), `[P{n: ["`+plain+`"]}]`)
}

// P12.1: lists deep in one another.
func TestMostOfDeepLists(t *testing.T) {
	p := few(t)
	const deep = api.MaxOut/2 - 1
	objs := []api.Obj{listObj(intValue(10))}
	for n := range int64(deep - 1) {
		objs = append(objs, listObj(listValue(n+1)))
	}
	h := loaded(t, objs)
	want := strings.Repeat("[", deep) + "10" + strings.Repeat("]", deep)
	wantText(t, p, h, listValue(deep), want)
	for _, c := range []struct {
		v    api.Value
		text string
	}{{intValue(100), ""}, {listValue(0), "?"}, {listValue(deep), "#1"}, {nilValue, ""}, {compValue(0, 0), ""}, {strValue(0), `""`}} {
		h.Put(listValue(1), 0, c.v)
		if c.text == "" {
			wantLong(t, "deep", p, h, listValue(deep))
			continue
		}
		wantText(t, p, h, listValue(deep), strings.Repeat("[", deep)+c.text+strings.Repeat("]", deep))
	}
	h.Put(listValue(1), 0, listValue(deep-10))
	wantLong(t, "a number of two digits", p, h, listValue(deep))
	wantText(t, p, h, listValue(deep-10), strings.Repeat("[", deep-10)+"#1"+strings.Repeat("]", deep-10))
}

// P12.1: records deep in one another; what is one byte longer stands behind all that is in them, or ahead of it.
func TestMostOfDeepRecords(t *testing.T) {
	p := source(t, "rec P { a: P; b: int; } fn main() {}")
	const deep = int64(api.MaxOut / len("P{a: , b: 1}"))
	digits := intValue(1111)
	objs := []api.Obj{recObj(0, digits, intValue(1))}
	for n := range deep - 2 {
		objs = append(objs, recObj(0, recValue(n+1), intValue(1)))
	}
	inner := recValue(int64(len(objs)))
	objs = append(objs, recObj(0, inner, intValue(1)), recObj(0, inner, intValue(10)))
	want := strings.Repeat("P{a: ", int(deep)) + "1111" + strings.Repeat(", b: 1}", int(deep))
	wantBoth(t, "behind", p, objs, recValue(deep), recValue(deep+1), want)
	objs[0].Vals[0] = intValue(11111)
	wantLong(t, "ahead", p, loaded(t, objs), recValue(deep))
}

// P12.1: a record's name counts once, its fields' likewise.
func TestMostOfLongNames(t *testing.T) {
	name := "N" + strings.Repeat("n", 60000)
	p := source(t, "rec "+name+" {} fn main() {}")
	fill := strings.Repeat("1", api.MaxOut-len(name)-len(`[{}, #2, ""]`))
	objs := []api.Obj{recObj(0), textObj(fill), textObj(fill + "1"), listObj(recValue(1), recValue(1), strValue(2)), listObj(recValue(1), recValue(1), strValue(3))}
	wantBoth(t, "a record's name", p, objs, listValue(4), listValue(5), "["+name+`{}, #2, "`+fill+`"]`)
	field := strings.Repeat("f", 60000)
	p = source(t, "rec P { "+field+": P; } fn main() {}")
	fill = strings.Repeat("1", api.MaxOut-len(field)-len(`P{: ""}`))
	objs = []api.Obj{textObj(fill), textObj(fill + "1"), recObj(0, strValue(1)), recObj(0, strValue(2)), recObj(0, recValue(3))}
	wantBoth(t, "a field's name", p, objs, recValue(3), recValue(4), "P{"+field+`: "`+fill+`"}`)
	wantLong(t, "a field's name, twice", p, loaded(t, objs), recValue(5))
}

// P12.3: what would be far too long, if each stood as often as it's met.
func TestWhatIsMetTooOften(t *testing.T) {
	p := few(t)
	objs := []api.Obj{listObj()}
	for n := range int64(1000) {
		objs = append(objs, listObj(listValue(n+1), listValue(n+1), listValue(n+1)))
	}
	h, s := loaded(t, objs), said{objs: objs}
	for _, n := range []int64{2, 3, 64, 1001} {
		want, count := s.text(listValue(n))
		if count != int(n) {
			t.Fatalf("the test is wrong: %d lists", count)
		}
		wantText(t, p, h, listValue(n), want)
	}
	wantText(t, p, h, listValue(3), "[[[], #3, #3], #2, #2]")
	long := textObj(strings.Repeat("a", api.MaxOut-20))
	h = loaded(t, []api.Obj{listObj(strValue(2)), long, listObj(many(listValue(1), 4)...)})
	wantText(t, p, h, listValue(3), `[["`+long.Text+`"], #2, #2, #2]`)
}

// P0.1: what never would be at its end: long texts that are met very often, and long names.
func TestWhatIsFarTooLong(t *testing.T) {
	long := textObj(strings.Repeat("\x00", 200000))
	field := strings.Repeat("f", 60000)
	p := source(t, "rec P { "+field+": P; } fn main() {}")
	h := loaded(t, []api.Obj{long, listObj(many(strValue(1), 40000)...)})
	wantLong(t, "a long text", p, h, listValue(2))
	objs := []api.Obj{listObj(many(strValue(2), 10000)...), long}
	for n := range int64(10) {
		objs = append(objs, listObj(listValue(1), strValue(2), listValue(n+3), strValue(2)))
	}
	wantLong(t, "a long text, anywhere", p, loaded(t, objs), listValue(12))
	objs = nil
	for n := range int64(30000) {
		objs = append(objs, recObj(0, recValue(n+2)))
	}
	wantLong(t, "a long name", p, loaded(t, objs), recValue(1))
	h, code := heap.New(api.MaxHeap)
	if code != api.OK {
		t.Fatal(code)
	}
	all, _ := h.List(0, api.MaxHeap-1, listValue(1))
	wantLong(t, "itself in each place", p, h, all)
}

// P12.1, P12.2: alike in one heap and in others, where the objects stand in another order.
func TestAlike(t *testing.T) {
	p := few(t)
	h := loaded(t, []api.Obj{
		textObj("a"), listObj(strValue(1), intValue(2)), recObj(1, listValue(2)), textObj("a"), listObj(strValue(4), intValue(2)),
		listObj(listValue(2), listValue(2)), listObj(listValue(2), listValue(5)), listObj(listValue(8)), listObj(listValue(10)), listObj(listValue(9)),
	})
	g := loaded(t, []api.Obj{
		listObj(), recObj(1, listValue(5)), recObj(0), textObj("a"), listObj(strValue(4), intValue(2)), listObj(listValue(5), listValue(5)), textObj("b"), listObj(strValue(7), intValue(2)),
	})
	for _, c := range []struct {
		v, w api.Value
		want bool
	}{
		{strValue(1), strValue(4), true}, {strValue(1), strValue(7), false}, {strValue(0), strValue(0), true}, {strValue(0), strValue(4), false},
		{listValue(2), listValue(5), true}, {listValue(5), listValue(5), true}, {listValue(2), listValue(8), false}, {listValue(2), listValue(1), false},
		{recValue(3), recValue(2), true}, {recValue(3), recValue(3), false},
		{listValue(6), listValue(6), true}, {listValue(7), listValue(6), false},
		{intValue(1), intValue(1), true}, {intValue(1), intValue(2), false}, {intValue(1), boolValue(1), false}, {intValue(0), nilValue, false},
		{boolValue(1), boolValue(7), true}, {boolValue(0), boolValue(1), false}, {nilValue, api.Value{Kind: api.NilKind, N: 3}, true},
		{compValue(1, 2), compValue(1, 2), true}, {compValue(1, 2), compValue(2, 1), false}, {compValue(1, 0), compValue(1+2*api.MaxGauss, 0), true},
		{listValue(0), recValue(99), true}, {strValue(99), api.Value{}, true}, {listValue(0), nilValue, false},
	} {
		wantAlike(t, "another heap", p, h, c.v, g, c.w, c.want)
	}
	wantAlike(t, "one heap", p, h, listValue(2), h, listValue(5), true)
	wantAlike(t, "one heap", p, h, listValue(6), h, listValue(7), false)
	wantAlike(t, "rings", p, h, listValue(9), h, listValue(10), true)
	wantAlike(t, "rings", p, h, listValue(8), h, listValue(9), false)
	wantAlike(t, "a copy", p, h, recValue(3), h.Copy(), recValue(3), true)
	wantAlike(t, "other programs", source(t, "fn main() {}"), h, recValue(3), g, recValue(3), true)
}

// P12.1: of what is too long nothing is alike, not even itself, and nor are two that differ behind that.
func TestTooLongIsNotAlike(t *testing.T) {
	p := few(t)
	just := strings.Repeat("c", api.MaxOut-2)
	objs := []api.Obj{textObj(just), textObj(just + "c"), textObj(just + "d"), listObj(strValue(2)), textObj(just[1:] + "d")}
	h, g := loaded(t, objs), loaded(t, append([]api.Obj{listObj()}, objs...))
	for n := range int64(5) {
		for m := range int64(5) {
			v, w := api.Value{Kind: objs[n].Kind, N: n + 1}, api.Value{Kind: objs[m].Kind, N: m + 2}
			wantAlike(t, "too long", p, h, v, g, w, n == m && (n == 0 || n == 4))
		}
	}
	wantAlike(t, "too long", p, h, strValue(2), g, strValue(0), false)
}
