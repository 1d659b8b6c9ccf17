package types_test

import (
	"fmt"
	"math"
	"slices"
	"strings"
	"testing"

	"hindcast/api"
	"hindcast/parse"
	"hindcast/types"
)

// shown is a table, a tree or a text cut short: all may be long.
func shown(what any) string { return fmt.Sprintf("%.300s", fmt.Sprint(what)) }

func wantMay(t *testing.T, l []api.Type, want bool) {
	t.Helper()
	if got := types.May(l); got != want {
		t.Errorf("May(%s): %v, want %v", shown(l), got, want)
	}
}

func wantList(t *testing.T, l []api.Type, of int, want []api.Type, number int) {
	t.Helper()
	if got, n := types.List(l, of); !slices.Equal(got, want) || n != number {
		t.Errorf("List(%s, %d): %s, %d, want %s, %d", shown(l), of, shown(got), n, shown(want), number)
	}
}

func wantOf(t *testing.T, l []api.Type, recs []string, nodes []api.Node, want []api.Type, number int) {
	t.Helper()
	if got, n := types.Of(l, recs, nodes); !slices.Equal(got, want) || n != number {
		t.Errorf("Of(%s, %s, %s): %s, %d, want %s, %d", shown(l), shown(recs), shown(nodes), shown(got), n, shown(want), number)
	}
}

func wantText(t *testing.T, l []api.Type, recs []string, of int, want string) {
	t.Helper()
	if got := types.Text(l, recs, of); got != want {
		t.Errorf("Text(%s, %s, %d): %s, want %s", shown(l), shown(recs), of, shown(got), shown(want))
	}
}

func wantFits(t *testing.T, l []api.Type, have, other int, want bool) {
	t.Helper()
	if got := types.Fits(l, have, other); got != want {
		t.Errorf("Fits(%s, %d, %d): %v, want %v", shown(l), have, other, got, want)
	}
}

func wantZero(t *testing.T, l []api.Type, of int, want api.Value) {
	t.Helper()
	if got := types.Zero(l, of); got != want {
		t.Errorf("Zero(%s, %d): %v, want %v", shown(l), of, got, want)
	}
}

// numbers are those that a table may be asked for: its own, and some that aren't there.
func numbers(l []api.Type) []int {
	all := []int{math.MinInt, -1 << 32, -7, -2, -1, len(l) + 1, 1 << 32, math.MaxInt}
	for n := range len(l) + 1 {
		all = append(all, n)
	}
	return all
}

// someTrees are types' trees: each plain one, records, and lists of these.
func someTrees() [][]api.Node {
	var all [][]api.Node
	for depth := range 4 {
		for _, kind := range []uint8{api.KIntT, api.KBoolT, api.KStrT, api.KCompT} {
			all = append(all, listNodes(depth, kindNode(kind, "")))
		}
		for _, rec := range []string{"A", "B", "C"} {
			all = append(all, listNodes(depth, kindNode(api.KRecT, rec)))
		}
	}
	return all
}

// wantNothing asks of all functions what they answer of a table that may not be.
func wantNothing(t *testing.T, l []api.Type) {
	t.Helper()
	wantMay(t, l, false)
	recs := []string{"A", "B"}
	for _, n := range numbers(l) {
		wantList(t, l, n, nil, 0)
		wantText(t, l, recs, n, "")
		wantZero(t, l, n, api.Value{})
		for _, other := range []int{-1, 0, n, 5, 6, len(l) - 1} {
			wantFits(t, l, n, other, false)
			wantFits(t, l, other, n, false)
		}
	}
	for _, nodes := range append(someTrees(), nil) {
		wantOf(t, l, recs, nodes, nil, 0)
	}
}

// wantAsSaid asks all functions of a table what is said apart from them.
func wantAsSaid(t *testing.T, l []api.Type) {
	t.Helper()
	s, ok := saidOf(l)
	if !ok {
		wantNothing(t, l)
		return
	}
	wantMay(t, l, true)
	for _, n := range numbers(l) {
		more, number := s.list(n)
		wantList(t, l, n, more, number)
		wantZero(t, l, n, s.zero(n))
		for _, recs := range [][]string{nil, {"A"}, {"A", "B", "C"}, {"", "B"}} {
			wantText(t, l, recs, n, s.text(recs, n))
		}
		for _, other := range numbers(l) {
			wantFits(t, l, n, other, s.fits(n, other))
		}
	}
	for _, nodes := range someTrees() {
		for _, recs := range [][]string{nil, {"A"}, {"A", "B", "C"}, {"B", "B", "A", "A"}} {
			more, number := s.of(recs, nodes)
			wantOf(t, l, recs, nodes, more, number)
		}
	}
}

func TestExamples(t *testing.T) { // P8.1
	if l := types.Base(1); len(l) != 7 {
		t.Error("Base(1):", l)
	}
	ints, number := types.List(types.Base(0), 1)
	if len(ints) != 7 || number != 6 {
		t.Error("List(Base(0), 1):", ints, number)
	}
	wantText(t, ints, nil, 6, "[int]")
}

func TestBase(t *testing.T) { // P8.1
	for recs, want := range map[int]int{
		math.MinInt: 0, -1 << 32: 0, -101: 0, -2: 0, -1: 0, 0: 0, 1: 1, 2: 2, 7: 7, 50: 50,
		api.MaxRecs - 1: api.MaxRecs - 1, api.MaxRecs: api.MaxRecs, api.MaxRecs + 1: api.MaxRecs, 255: api.MaxRecs, 256: api.MaxRecs, 1 << 32: api.MaxRecs, math.MaxInt: api.MaxRecs,
	} {
		if got := types.Base(recs); !slices.Equal(got, table(want)) {
			t.Errorf("Base(%d): %s, want %d records", recs, shown(got), want)
		}
	}
	for recs := range api.MaxRecs + 1 {
		if got := types.Base(recs); !slices.Equal(got, table(recs)) {
			t.Errorf("Base(%d): %s", recs, shown(got))
		}
		wantMay(t, types.Base(recs), true)
	}
}

func TestMayBe(t *testing.T) { // P8.1
	for _, l := range [][]api.Type{
		table(0), table(1), table(api.MaxRecs),
		table(0, 1), table(0, 2), table(0, 3), table(0, 4), table(0, 4, 3, 2, 1), table(0, 1, 6, 7, 8), table(0, 1, 2, 6, 7, 3),
		table(1, 6), table(2, 7, 6), table(2, 7, 8, 6, 10, 1), table(api.MaxRecs, 105, 106, 6, 1),
	} {
		wantAsSaid(t, l)
		wantMay(t, l, true)
	}
}

func TestNoFirstSix(t *testing.T) { // P8.1
	wantNothing(t, nil)
	wantNothing(t, []api.Type{})
	for _, l := range [][]api.Type{table(0), table(2), table(0, 1), table(2, 6, 1)} {
		for at := range 6 {
			wantNothing(t, l[:at])
			wantNothing(t, l[at+1:])
			wantNothing(t, slices.Delete(slices.Clone(l), at, at+1))
			wantNothing(t, slices.Insert(slices.Clone(l), at, l[at]))
			for kind := range 256 {
				for _, of := range []int{math.MinInt, -1, 0, 1, at, 6, 256, 1 << 32} {
					other := slices.Clone(l)
					other[at] = api.Type{Kind: uint8(kind), Of: of}
					wantMay(t, other, other[at] == l[at])
				}
			}
			for other := range at {
				swapped := slices.Clone(l)
				swapped[at], swapped[other] = swapped[other], swapped[at]
				wantNothing(t, swapped)
			}
		}
	}
}

func TestWrongRecords(t *testing.T) { // P8.1
	for _, recs := range []int{1, 2, 3, api.MaxRecs} {
		l := table(recs)
		for _, rec := range []int{0, recs / 2, recs - 1} {
			for _, of := range []int{math.MinInt, -1, 0, 1, rec - 1, rec, rec + 1, recs, rec + 6, 256, rec + 256, math.MaxInt} {
				other := slices.Clone(l)
				other[6+rec].Of = of
				wantMay(t, other, of == rec)
			}
		}
	}
	wantNothing(t, append(table(0), api.Type{Kind: api.RecKind, Of: 1}))
	wantNothing(t, append(table(1), api.Type{Kind: api.RecKind, Of: 0}))
	wantNothing(t, append(table(2), api.Type{Kind: api.RecKind, Of: 3}))
	// Records that are too many, with each number that they might have.
	for _, of := range []int{-1, 0, 99, 100, 101, 106} {
		wantMay(t, append(table(api.MaxRecs), api.Type{Kind: api.RecKind, Of: of}), false)
	}
	wantNothing(t, table(api.MaxRecs+1))
	wantMay(t, table(api.MaxRecs+1, 1), false)
	wantMay(t, table(api.MaxRecs+1, 106), false)
	wantMay(t, table(api.MaxRecs+2), false)
	wantMay(t, table(3*api.MaxRecs), false)
	// Records behind lists.
	for recs := range 3 {
		for of := range 3 {
			rec := api.Type{Kind: api.RecKind, Of: of}
			wantNothing(t, append(table(recs, 1), rec))
			wantNothing(t, append(table(recs, 2, 3), rec))
			wantNothing(t, slices.Concat(table(recs, 4), []api.Type{rec}, []api.Type{{Kind: api.ListKind, Of: 1}}))
		}
	}
	wantMay(t, append(table(99, 1), api.Type{Kind: api.RecKind, Of: 99}), false)
}

func TestWrongLists(t *testing.T) { // P8.1
	for name, l := range map[string][]api.Type{
		"of none": table(0, 0), "of nil": table(0, 5), "of none behind others": table(1, 6, 0), "of nil behind others": table(1, 6, 5), "of none ahead of others": table(1, 0, 6),
		"of its own": table(0, 6), "of its own behind others": table(0, 1, 7), "of its own behind a record": table(1, 7), "of each other": table(0, 7, 6),
		"ahead of its elements' type": table(0, 7, 1), "just ahead": table(0, 1, 8, 2), "far ahead": table(0, 9, 1, 2, 3), "behind the table": table(0, 7), "far behind the table": table(0, 100), "of more than there are": table(0, math.MaxInt), "of what goes round": table(0, 1<<32+1), "of what goes round shorter": table(0, 257),
		"of -1": table(0, -1), "of -6": table(0, -6), "of the least": table(0, math.MinInt),
		"of ints twice": table(0, 1, 1), "of strs twice": table(0, 3, 3), "of a record twice": table(1, 6, 6), "of lists twice": table(0, 1, 6, 6), "twice and others between": table(1, 1, 2, 6, 1), "twice, the last two": table(2, 1, 2, 6, 7, 7),
	} {
		t.Run(name, func(t *testing.T) { wantNothing(t, l) })
	}
	for kind := range 256 {
		for _, of := range []int{-1, 0, 1, 2, 6} {
			for _, l := range [][]api.Type{table(0), table(0, 1), table(1, 1)} {
				may := kind == api.ListKind && of > 0 && of < len(l) && !(of == 1 && len(l) > 6)
				may = may || kind == api.RecKind && len(l) == 6 && of == 0
				wantMay(t, append(l, api.Type{Kind: uint8(kind), Of: of}), may)
			}
		}
	}
}

// TestShortTables goes through all tables of few records and few others behind them.
func TestShortTables(t *testing.T) { // P8.1
	var rows []api.Type
	for kind := range 10 {
		for of := -1; of < 10; of++ {
			rows = append(rows, api.Type{Kind: uint8(kind), Of: of})
		}
	}
	few := slices.DeleteFunc(slices.Clone(rows), func(r api.Type) bool { return r.Kind < api.RecKind || r.Kind > api.ListKind })
	for recs := range 4 {
		for _, a := range rows {
			wantAsSaid(t, append(table(recs), a))
			for _, b := range rows {
				l := append(table(recs), a, b)
				_, may := saidOf(l)
				wantMay(t, l, may)
			}
		}
		for _, a := range few {
			for _, b := range few {
				for _, c := range few {
					l := append(table(recs), a, b, c)
					_, may := saidOf(l)
					wantMay(t, l, may)
				}
			}
		}
	}
}

func TestGrownTables(t *testing.T) { // P8.1, P8.3
	by := &dice{0x9e3779b97f4a7c15}
	may := 0
	for round := range 400 {
		l := by.grown(by.below(5), by.below(12))
		wantAsSaid(t, l)
		if t.Failed() {
			t.Fatal("in round", round)
		}
		for range 8 {
			other := by.shaken(l)
			if _, ok := saidOf(other); ok {
				may++
			}
			wantAsSaid(t, other)
		}
	}
	if may < 100 || may > 2500 {
		t.Error("of 3200 tables these may be:", may)
	}
	wantAsSaid(t, by.grown(api.MaxRecs, 20))
}

func TestList(t *testing.T) { // P8.1, P8.3
	for of := 1; of <= 4; of++ {
		wantList(t, table(0), of, table(0, of), 6)
		wantList(t, table(2), of, table(2, of), 8)
		wantList(t, table(api.MaxRecs), of, table(api.MaxRecs, of), 106)
		wantList(t, table(0, of), of, table(0, of), 6)
		wantList(t, table(1, 6, of), of, table(1, 6, of), 8)
	}
	wantList(t, table(2), 6, table(2, 6), 8)
	wantList(t, table(2), 7, table(2, 7), 8)
	wantList(t, table(2, 7), 6, table(2, 7, 6), 9)
	wantList(t, table(2, 7, 6), 7, table(2, 7, 6), 8)
	wantList(t, table(2, 7, 6), 6, table(2, 7, 6), 9)
	wantList(t, table(2, 7, 6), 8, table(2, 7, 6, 8), 10)
	wantList(t, table(0, 1, 6, 7), 8, table(0, 1, 6, 7, 8), 9)
	wantList(t, table(0, 1, 6, 7), 6, table(0, 1, 6, 7), 7)
	wantList(t, table(0, 1, 2, 3, 4), 1, table(0, 1, 2, 3, 4), 6)
	wantList(t, table(0, 1, 2, 3, 4), 4, table(0, 1, 2, 3, 4), 9)
	for _, l := range [][]api.Type{table(0), table(3), table(1, 6, 1), table(api.MaxRecs, 1)} {
		for _, of := range []int{math.MinInt, -1 << 32, -6, -1, 0, api.NilKind, len(l), len(l) + 1, 256, 1 << 32, 1<<32 + 1, math.MaxInt} {
			wantList(t, l, of, l, 0)
		}
	}
}

// TestListsOfLists makes each list that may be in turn, and again.
func TestListsOfLists(t *testing.T) { // P8.1, P8.3
	l := types.Base(2)
	want := table(2)
	for of := range 40 {
		l, want = wantOneMore(t, l, want, of)
	}
	for of := 39; of >= 0; of-- {
		number := slices.Index(want, api.Type{Kind: api.ListKind, Of: of})
		wantList(t, l, of, want, max(0, number))
	}
}

func wantOneMore(t *testing.T, l, want []api.Type, of int) (more, wanted []api.Type) {
	t.Helper()
	if of == 0 || of == 5 {
		wantList(t, l, of, want, 0)
		return l, want
	}
	number := len(want)
	want = append(slices.Clone(want), api.Type{Kind: api.ListKind, Of: of})
	wantList(t, l, of, want, number)
	wantList(t, want, of, want, number)
	l, _ = types.List(l, of)
	wantMay(t, l, true)
	return l, want
}

func plainKinds() []uint8 { return []uint8{api.KIntT, api.KBoolT, api.KStrT, api.KCompT} }

func TestOfPlainTypes(t *testing.T) { // P8.1
	for i, kind := range plainKinds() {
		for _, l := range [][]api.Type{table(0), table(2), table(1, 1, 6)} {
			for _, recs := range [][]string{nil, {"A"}, {"int", "bool", "str", "comp"}, {""}} {
				wantOf(t, l, recs, kindNode(kind, ""), l, i+1)
			}
		}
		n := i + 1
		wantOf(t, table(0), nil, listNodes(1, kindNode(kind, "")), table(0, n), 6)
		wantOf(t, table(0, n), nil, listNodes(1, kindNode(kind, "")), table(0, n), 6)
		wantOf(t, table(1, 6, n, 7), nil, listNodes(1, kindNode(kind, "")), table(1, 6, n, 7), 8)
	}
}

func TestOfRecords(t *testing.T) { // P8.1
	abc := []string{"A", "B", "Cc_9"}
	for i, name := range abc {
		wantOf(t, table(3), abc, kindNode(api.KRecT, name), table(3), 6+i)
		wantOf(t, table(api.MaxRecs, 1), abc, kindNode(api.KRecT, name), table(api.MaxRecs, 1), 6+i)
		wantOf(t, table(3), abc, listNodes(2, kindNode(api.KRecT, name)), table(3, 6+i, 9), 10)
	}
	// Of one name the first place is meant.
	twice := []string{"B", "A", "A", "B"}
	wantOf(t, table(4), twice, kindNode(api.KRecT, "A"), table(4), 7)
	wantOf(t, table(4), twice, kindNode(api.KRecT, "B"), table(4), 6)
	wantOf(t, table(4), twice, listNodes(1, kindNode(api.KRecT, "A")), table(4, 7), 10)
	wantOf(t, table(2), twice, kindNode(api.KRecT, "A"), table(2), 7)
	// A name that isn't there.
	for _, recs := range [][]string{nil, {"B"}, {"a"}, {""}, {"AA"}, {"A "}, {"[A]"}, {"B", "C", "D"}} {
		for depth := range 3 {
			wantOf(t, table(3, 6), recs, listNodes(depth, kindNode(api.KRecT, "A")), table(3, 6), 0)
		}
	}
	// A place that the table has no record for, though a list may stand there.
	for depth := range 3 {
		c := listNodes(depth, kindNode(api.KRecT, "Cc_9"))
		wantOf(t, table(2), abc, c, table(2), 0)
		wantOf(t, table(0), abc, c, table(0), 0)
		wantOf(t, table(2, 1), abc, c, table(2, 1), 0)
		wantOf(t, table(2, 1, 2, 3, 8), abc, c, table(2, 1, 2, 3, 8), 0)
		wantOf(t, table(0, 1, 2, 3, 8), abc, c, table(0, 1, 2, 3, 8), 0)
	}
	wantOf(t, table(0, 1), []string{"A"}, kindNode(api.KRecT, "A"), table(0, 1), 0)
	// More names than there may be records.
	var many []string
	for i := range 2 * api.MaxRecs {
		many = append(many, fmt.Sprint("R", i))
	}
	wantOf(t, table(api.MaxRecs, 1), many, kindNode(api.KRecT, "R99"), table(api.MaxRecs, 1), 105)
	wantOf(t, table(api.MaxRecs, 1), many, kindNode(api.KRecT, "R100"), table(api.MaxRecs, 1), 0)
	wantOf(t, table(api.MaxRecs, 1), many, kindNode(api.KRecT, "R199"), table(api.MaxRecs, 1), 0)
}

func TestOfLists(t *testing.T) { // P8.1, P8.3
	ab := []string{"A", "B"}
	four := listNodes(4, kindNode(api.KIntT, ""))
	wantOf(t, table(0), nil, four, table(0, 1, 6, 7, 8), 9)
	wantOf(t, table(2), ab, four, table(2, 1, 8, 9, 10), 11)
	wantOf(t, table(0, 1), nil, four, table(0, 1, 6, 7, 8), 9)
	wantOf(t, table(0, 1, 6), nil, four, table(0, 1, 6, 7, 8), 9)
	wantOf(t, table(0, 1, 6, 7, 8), nil, four, table(0, 1, 6, 7, 8), 9)
	wantOf(t, table(0, 1, 6, 7, 8, 9), nil, four, table(0, 1, 6, 7, 8, 9), 9)
	// Others stand between.
	wantOf(t, table(0, 2, 1, 3, 7, 6), nil, four, table(0, 2, 1, 3, 7, 6, 9, 11), 12)
	wantOf(t, table(0, 2, 6, 7, 8), nil, four, table(0, 2, 6, 7, 8, 1, 10, 11, 12), 13)
	wantOf(t, table(2, 7, 8, 6, 10), ab, listNodes(3, kindNode(api.KRecT, "A")), table(2, 7, 8, 6, 10, 11), 12)
	wantOf(t, table(2, 7, 8, 6, 10), ab, listNodes(3, kindNode(api.KRecT, "B")), table(2, 7, 8, 6, 10, 9), 12)
	wantOf(t, table(2, 7, 8, 6, 10), ab, listNodes(2, kindNode(api.KRecT, "B")), table(2, 7, 8, 6, 10), 9)
	wantOf(t, table(2, 7, 8, 6, 10), ab, listNodes(1, kindNode(api.KRecT, "B")), table(2, 7, 8, 6, 10), 8)
	wantOf(t, table(2, 7, 8, 6, 10), ab, listNodes(1, kindNode(api.KStrT, "")), table(2, 7, 8, 6, 10, 3), 12)
}

func TestOfPlaces(t *testing.T) { // P8.1
	for _, place := range []int{math.MinInt, -1, 0, 1, 77, math.MaxInt} {
		for _, tree := range someTrees() {
			nodes := slices.Clone(tree)
			for i := range nodes {
				nodes[i].Line, nodes[i].Col = place, place-i
			}
			l, number := types.Of(table(3, 1), []string{"A", "B", "C"}, tree)
			wantOf(t, table(3, 1), []string{"A", "B", "C"}, nodes, l, number)
		}
	}
}

// otherRows are rows that are no type's tree.
func otherRows() [][]api.Node {
	ints := kindNode(api.KIntT, "")
	list := func(size int, nodes ...api.Node) []api.Node {
		return append([]api.Node{{Kind: api.KListT, Size: size}}, nodes...)
	}
	rows := [][]api.Node{
		nil, {},
		slices.Concat(ints, ints), slices.Concat(listNodes(1, ints), ints), slices.Concat(ints, listNodes(1, ints)),
		list(0), list(1), list(2, ints...), list(0, ints...), list(-1, ints...), list(math.MaxInt, ints...), list(math.MinInt, ints...),
		list(2, ints[0], ints[0]), list(1, kindNode(api.KNoneT, "")...), list(1, kindNode(api.KName, "a")...), list(1, kindNode(api.KRecT, "a")...), list(1, kindNode(api.KRecT, "")...), list(1, kindNode(api.KIntT, "int")...),
		list(2, list(0, ints...)...), list(2, list(2, ints...)...), list(1, list(1, ints...)...), list(3, list(2, ints[0], ints[0])...),
		{{Kind: api.KListT, Size: 1, Text: "A"}, ints[0]}, {{Kind: api.KListT, Size: 1, Num: 1}, ints[0]},
		{{Kind: api.KIntT, Num: 1}}, {{Kind: api.KIntT, Num: -1}}, {{Kind: api.KIntT, Size: 1}}, {{Kind: api.KIntT, Size: -1}}, {{Kind: api.KIntT, Text: "a"}},
		{{Kind: api.KRecT, Text: "A", Num: 1}}, {{Kind: api.KRecT, Text: "A", Size: 1}}, {{Kind: api.KRecT, Text: "A", Size: 1}, ints[0]},
	}
	for kind := range 256 {
		for _, text := range []string{"", "A", "a", "int", "nil", "[A]", "A A", "Ä"} {
			if row := kindNode(uint8(kind), text); !isTypesNode(row[0]) {
				rows = append(rows, row, listNodes(1, row), listNodes(3, row))
			}
		}
	}
	return append(rows, readRows()...)
}

func isTypesNode(n api.Node) bool {
	_, _, ok := saidTree([]api.Node{n})
	return ok
}

// readRows are trees that are read, but no types'.
func readRows() [][]api.Node {
	var rows [][]api.Node
	for _, s := range []string{"1", "a", "nil", "make A()", "make [int](1)", "a[1]", "f(a)", "a.b"} {
		e, _ := parse.Expr(s)
		rows = append(rows, e, listNodes(1, e))
	}
	whole, _ := parse.Parse("rec A { a: int; } fn f(a: [int]): A { var b: [A] = make [A](1); return b[0]; }")
	for from, n := range whole {
		if row := whole[from : from+1+n.Size]; n.Kind < api.KIntT || n.Kind > api.KListT {
			rows = append(rows, row)
		}
	}
	return rows
}

func TestOfNoTypes(t *testing.T) { // P8.1
	for _, l := range [][]api.Type{table(0), table(1), table(2, 1, 6)} {
		for _, recs := range [][]string{nil, {"A", "a"}, {"", "int", "nil", "[A]", "A A", "Ä", "A"}} {
			for _, nodes := range otherRows() {
				wantOf(t, l, recs, nodes, l, 0)
			}
		}
	}
}

// TestOfShortRows goes through all rows of one node, and of two telling ones.
func TestOfShortRows(t *testing.T) { // P8.1
	recs, l := []string{"B", "A"}, table(2, 7, 1)
	s, _ := saidOf(l)
	want := func(nodes ...api.Node) {
		more, number := s.of(recs, nodes)
		wantOf(t, l, recs, nodes, more, number)
	}
	var few []api.Node
	for kind := range 40 {
		for size := -1; size < 4; size++ {
			for _, text := range []string{"", "A", "C", "a"} {
				for num := range int64(2) {
					n := api.Node{Kind: uint8(kind), Size: size, Num: num, Text: text}
					want(n)
					if kind >= api.KNoneT && kind <= api.KInt && text != "a" && size >= 0 && size < 3 {
						few = append(few, n)
					}
				}
			}
		}
	}
	for _, a := range few {
		for _, b := range few {
			want(a, b)
			if a.Kind == api.KListT && a.Size == 2 {
				want(a, api.Node{Kind: api.KListT, Size: 1}, b)
				want(a, b, api.Node{Kind: api.KIntT})
			}
		}
	}
}

func TestText(t *testing.T) { // P8.1
	l, recs := table(3, 1, 2, 3, 4, 6, 7, 8, 9, 16, 13, 18), []string{"A", "Bb_2", "C"}
	for of, want := range []string{"", "int", "bool", "str", "comp", "nil", "A", "Bb_2", "C", "[int]", "[bool]", "[str]", "[comp]", "[A]", "[Bb_2]", "[C]", "[[int]]", "[[[int]]]", "[[A]]", "[[[A]]]"} {
		wantText(t, l, recs, of, want)
	}
	for _, of := range []int{math.MinInt, -1 << 32, -6, -1, len(l), len(l) + 1, 256, 1 << 32, 1<<32 + 1, math.MaxInt} {
		wantText(t, l, recs, of, "")
	}
}

func TestTextOfRecordsWithoutNames(t *testing.T) { // P8.1
	l := table(3, 6, 7, 8, 9, 10, 11, 1)
	for _, c := range []struct {
		recs []string
		want []string
	}{
		{nil, []string{"", "", "", "", "", "", "", "", "", "[int]"}},
		{[]string{}, []string{"", "", "", "", "", "", "", "", "", "[int]"}},
		{[]string{"A"}, []string{"A", "", "", "[A]", "", "", "[[A]]", "", "", "[int]"}},
		{[]string{"A", "B"}, []string{"A", "B", "", "[A]", "[B]", "", "[[A]]", "[[B]]", "", "[int]"}},
		{[]string{"", "B"}, []string{"", "B", "", "", "[B]", "", "", "[[B]]", "", "[int]"}},
		{[]string{"A", "A", "A", "A"}, []string{"A", "A", "A", "[A]", "[A]", "[A]", "[[A]]", "[[A]]", "[[A]]", "[int]"}},
		// A name is what it is, if it might be read or not.
		{[]string{"int", "[A]", "a b"}, []string{"int", "[A]", "a b", "[int]", "[[A]]", "[a b]", "[[int]]", "[[[A]]]", "[[a b]]", "[int]"}},
		{[]string{"[", "\x00\xff", "]"}, []string{"[", "\x00\xff", "]", "[[]", "[\x00\xff]", "[]]", "[[[]]", "[[\x00\xff]]", "[[]]]", "[int]"}},
	} {
		for i, want := range c.want {
			wantText(t, l, c.recs, 6+i, want)
		}
	}
}

// read is the tree of a type's text.
func read(t *testing.T, s string) []api.Node {
	t.Helper()
	l, fault := parse.Parse("rec R { a: " + s + "; }")
	if fault != (api.Fault{}) {
		t.Fatalf("%q isn't read: %v", s, fault)
	}
	return l[3:]
}

// wantBack asks of each type of a table that its text, read, is it.
func wantBack(t *testing.T, l []api.Type, recs []string) {
	t.Helper()
	for of := range l {
		if of == api.NoKind || of == api.NilKind {
			// No text of a program has these as types.
			continue
		}
		s := types.Text(l, recs, of)
		nodes := read(t, s)
		wantOf(t, l, recs, nodes, l, of)
		// And where its lists aren't there yet, it has the same text again.
		more, number := types.Of(types.Base(len(recs)), recs, nodes)
		wantMay(t, more, true)
		wantText(t, more, recs, number, s)
		wantOf(t, more, recs, nodes, more, number)
	}
}

func TestThereAndBack(t *testing.T) { // P8.2
	wantBack(t, table(0), nil)
	wantBack(t, table(3, 1, 2, 3, 4, 6, 7, 8, 9, 16, 13, 18), []string{"A", "Bb_2", "C"})
	by, names := &dice{0x2545f4914f6cdd1d}, []string{"A", "B", "Int", "R", "Zz_9", "AA"}
	for range 300 {
		recs := by.below(len(names) + 1)
		wantBack(t, by.grown(recs, by.below(30)), names[:recs])
	}
	var many []string
	for i := range api.MaxRecs {
		many = append(many, fmt.Sprint("R", i))
	}
	wantBack(t, by.grown(api.MaxRecs, 60), many)
	// As deep as may be read: a curly bracket stands about all of them.
	deep := table(1, 6)
	for len(deep) < 6+1+39 {
		deep = append(deep, api.Type{Kind: api.ListKind, Of: len(deep) - 1})
	}
	wantBack(t, deep, []string{"A"})
}

// TestAllStaysAtItsPlace makes types in turn: what was there has its number, its text and its zero value still.
func TestAllStaysAtItsPlace(t *testing.T) { // P8.3
	by, recs := &dice{0xda942042e4dd58b5}, []string{"A", "B", "C"}
	for range 60 {
		l := types.Base(by.below(4))
		for range 25 {
			more, number := types.List(l, by.below(len(l)+3)-1)
			if by.below(2) == 0 {
				more, number = types.Of(l, recs, someTrees()[by.below(len(someTrees()))])
			}
			if len(more) < len(l) || !slices.Equal(more[:len(l)], l) || number >= len(more) {
				t.Fatalf("%s became %s, %d", shown(l), shown(more), number)
			}
			wantMay(t, more, true)
			for of := range l {
				wantText(t, more, recs, of, types.Text(l, recs, of))
				wantZero(t, more, of, types.Zero(l, of))
				for other := range l {
					wantFits(t, more, of, other, types.Fits(l, of, other))
				}
			}
			l = more
		}
	}
}

func TestFits(t *testing.T) { // P8.1
	// Types from 6 on are two records; lists of ints, of bools, of each record, of lists of ints, and of lists of these.
	l := table(2, 1, 2, 6, 7, 8, 12)
	for have := range l {
		for want := range l {
			wantFits(t, l, have, want, have == want || have == 5 && want >= 6)
		}
	}
	for of := range l {
		for _, other := range []int{math.MinInt, -1 << 32, -1, len(l), len(l) + 1, 256, 1<<32 + of, math.MaxInt} {
			wantFits(t, l, of, other, false)
			wantFits(t, l, other, of, false)
			wantFits(t, l, other, other, false)
		}
	}
}

func TestZero(t *testing.T) { // P8.1
	l := table(2, 1, 5-1, 6, 8)
	for of := range l {
		want := api.Value{Kind: api.NilKind}
		if of < 5 {
			want.Kind = uint8(of)
		}
		wantZero(t, l, of, want)
	}
	for _, of := range []int{math.MinInt, -1 << 32, -6, -1, len(l), len(l) + 1, 256, 257, 1 << 32, 1<<32 + 1, math.MaxInt} {
		wantZero(t, l, of, api.Value{})
	}
}

// chain is a table of so many lists in one another.
func chain(many int) []api.Type {
	l := table(1, 6)
	for len(l) < 7+many {
		l = append(l, api.Type{Kind: api.ListKind, Of: len(l) - 1})
	}
	return l
}

func TestAsDeepAsTheyAreLong(t *testing.T) { // P8.1, P0.1
	const many = 1 << 16
	l, recs := chain(many), []string{"Deep"}
	last := len(l) - 1
	text := strings.Repeat("[", many) + "Deep" + strings.Repeat("]", many)
	nodes := listNodes(many, kindNode(api.KRecT, "Deep"))
	wantMay(t, l, true)
	wantText(t, l, recs, last, text)
	wantText(t, l, nil, last, "")
	wantOf(t, table(1), recs, nodes, l, last)
	wantOf(t, l[:len(l)/2], recs, nodes, l, last)
	wantOf(t, l, recs, nodes, l, last)
	wantOf(t, l, nil, nodes, l, 0)
	wantList(t, l, last, chain(many+1), last+1)
	wantList(t, l, last-1, l, last)
	wantList(t, l, 6, l, 7)
	wantFits(t, l, api.NilKind, last, true)
	wantFits(t, l, last-1, last, false)
	wantFits(t, l, last, last, true)
	wantZero(t, l, last, api.Value{Kind: api.NilKind})
	for _, of := range []int{6, 7, last / 2, last - 1, last + 1, -1, 0, 5} {
		wantMay(t, append(slices.Clone(l), api.Type{Kind: api.ListKind, Of: of}), false)
	}
	wantMay(t, append(slices.Clone(l), api.Type{Kind: api.ListKind, Of: 1}), true)
	wantMay(t, append(slices.Clone(l), api.Type{Kind: api.RecKind, Of: 1}), false)
}

// roomy is a row with room behind its end, that all may look at.
func roomy[T any](l []T, room T) (short, whole []T) {
	whole = append(slices.Clone(l), slices.Repeat([]T{room}, 20)...)
	return whole[:len(l)], whole
}

// handed is what is handed in, with room behind the ends of its rows.
type handed struct {
	l, wholeL         []api.Type
	recs, wholeRecs   []string
	nodes, wholeNodes []api.Node
}

func handedIn(l []api.Type, recs []string, nodes []api.Node) handed {
	var h handed
	h.l, h.wholeL = roomy(l, api.Type{Kind: 77, Of: 7})
	h.recs, h.wholeRecs = roomy(recs, "Room")
	h.nodes, h.wholeNodes = roomy(nodes, api.Node{Kind: 77, Line: 1, Col: 2, Size: 3, Num: 4, Text: "room"})
	return h
}

func (h handed) is(other handed) bool {
	return slices.Equal(h.wholeL, other.wholeL) && slices.Equal(h.wholeRecs, other.wholeRecs) && slices.Equal(h.wholeNodes, other.wholeNodes)
}

// someTables are tables that may be, and some that may not.
func someTables() [][]api.Type {
	return [][]api.Type{nil, table(0), table(2), table(2, 1, 2, 3, 4, 6, 7), table(2, 6, 8, 9), table(2, 1, 1), table(0)[:5], table(1, 7), table(api.MaxRecs, 1)}
}

func TestHandedInStays(t *testing.T) { // P0.3
	for _, l := range someTables() {
		for _, nodes := range append(someTrees(), nil, kindNode(api.KName, "a")) {
			h, before := handedIn(l, []string{"A", "B"}, nodes), handedIn(l, []string{"A", "B"}, nodes)
			for of := -1; of <= len(l); of++ {
				types.List(h.l, of)
				types.Text(h.l, h.recs, of)
				types.Zero(h.l, of)
				types.Fits(h.l, of, len(l)-1)
			}
			types.May(h.l)
			types.Of(h.l, h.recs, h.nodes)
			if !h.is(before) {
				t.Fatalf("%s, %s was changed", shown(l), shown(nodes))
			}
		}
	}
}

// spoil writes over all of a row, and over the room behind its end.
func spoil(l []api.Type) {
	l = l[:cap(l)]
	for i := range l {
		l[i] = api.Type{Kind: 99, Of: -99}
	}
}

func TestAnswersAreNew(t *testing.T) { // P0.3
	for _, recs := range []int{0, 1, api.MaxRecs} {
		one, other := types.Base(recs), types.Base(recs)
		spoil(one)
		if again := types.Base(recs); !slices.Equal(other, table(recs)) || !slices.Equal(again, table(recs)) {
			t.Errorf("Base(%d) shares its answer: %s, %s", recs, shown(other), shown(again))
		}
	}
	for _, l := range someTables() {
		for of := -1; of <= len(l); of++ {
			wantNew(t, l, func(l []api.Type) ([]api.Type, int) { return types.List(l, of) })
		}
		for _, nodes := range append(someTrees(), nil, kindNode(api.KName, "a")) {
			wantNew(t, l, func(l []api.Type) ([]api.Type, int) { return types.Of(l, []string{"A", "B"}, nodes) })
		}
	}
}

// wantNew asks that an answer shares nothing with what was handed in, nor with another answer.
func wantNew(t *testing.T, l []api.Type, call func([]api.Type) ([]api.Type, int)) {
	t.Helper()
	short, whole := roomy(l, api.Type{Kind: 77, Of: 7})
	before := slices.Clone(whole)
	one, number := call(short)
	other, _ := call(short)
	want := slices.Clone(one)
	spoil(one)
	again, n := call(short)
	if !slices.Equal(whole, before) || !slices.Equal(other, want) || !slices.Equal(again, want) || n != number {
		t.Errorf("of %s: the answer shares memory: %s, %s, want %s", shown(l), shown(other), shown(again), shown(want))
	}
	// Nor is anything kept of what was handed in.
	spoil(short)
	if !slices.Equal(again, want) {
		t.Errorf("of %s: %s became %s", shown(l), shown(want), shown(again))
	}
}

// TestRoomBehindTheEndIsNotSeen hands in a part of a table.
func TestRoomBehindTheEndIsNotSeen(t *testing.T) { // P0.3, P0.5
	whole := table(2, 1, 6, 9, 10)
	for end := range len(whole) + 1 {
		if end < 8 {
			_, may := saidOf(whole[:end])
			wantMay(t, whole[:end], may)
			continue
		}
		wantAsSaid(t, whole[:end])
	}
	if !slices.Equal(whole, table(2, 1, 6, 9, 10)) {
		t.Error("the table became", whole)
	}
}

func TestNilIsEmpty(t *testing.T) { // P0.4
	for _, l := range [][]api.Type{nil, {}, make([]api.Type, 0, 20)} {
		wantNothing(t, l)
	}
	for _, recs := range [][]string{nil, {}, make([]string, 0, 20)} {
		wantText(t, table(1, 6), recs, 6, "")
		wantText(t, table(1, 6), recs, 7, "")
		wantText(t, table(1, 6), recs, 1, "int")
		wantOf(t, table(1, 6), recs, kindNode(api.KRecT, "A"), table(1, 6), 0)
		for _, nodes := range [][]api.Node{nil, {}, make([]api.Node, 0, 20)} {
			wantOf(t, table(1, 6), recs, nodes, table(1, 6), 0)
		}
	}
}

// TestCallsDoNotHangOnOneAnother asks the same ahead of other calls and behind them.
func TestCallsDoNotHangOnOneAnother(t *testing.T) { // P0.5
	for range 3 {
		for _, l := range someTables() {
			wantAsSaid(t, l)
		}
	}
}
