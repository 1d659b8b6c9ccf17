package tree

import (
	"fmt"
	"math"
	"regexp"
	"slices"
	"strings"
	"testing"

	"hindcast/api"
	"hindcast/lex"
)

// branch is a node with its children; rows are made from it.
type branch struct {
	node api.Node
	kids []branch
}

func of(kind uint8, kids ...branch) branch { return branch{api.Node{Kind: kind}, kids} }

func (b branch) text(s string) branch {
	b.node.Text = s
	return b
}

func (b branch) num(n int64) branch {
	b.node.Num = n
	return b
}

func (b branch) row() []api.Node {
	l := []api.Node{b.node}
	for _, kid := range b.kids {
		l = append(l, kid.row()...)
	}
	l[0].Size = len(l) - 1
	return l
}

// copied shares no list with the branch.
func (b branch) copied() branch {
	kids := make([]branch, len(b.kids))
	for i, kid := range b.kids {
		kids[i] = kid.copied()
	}
	return branch{b.node, kids}
}

// all are the branch and all branches in it.
func (b *branch) all() []*branch {
	l := []*branch{b}
	for i := range b.kids {
		l = append(l, b.kids[i].all()...)
	}
	return l
}

func name(s string) branch     { return of(api.KName).text(s) }
func whole(n int64) branch     { return of(api.KInt).num(n) }
func intType() branch          { return of(api.KIntT) }
func recType(s string) branch  { return of(api.KRecT).text(s) }
func listType(b branch) branch { return of(api.KListT, b) }

// sample is the shortest right branch of a kind, or, of a kind that is none, a node alone.
func sample(kind uint8) branch {
	switch kind {
	case api.KRec, api.KRecT:
		return of(kind).text("R")
	case api.KField, api.KParam:
		return of(kind, intType()).text("a")
	case api.KFn:
		return of(kind, of(api.KNoneT), of(api.KBlock)).text("f")
	case api.KVar:
		return of(kind, intType(), whole(1)).text("v")
	case api.KSet:
		return of(kind, name("v"), whole(2))
	case api.KIf, api.KWhile:
		return of(kind, of(api.KBool), of(api.KBlock))
	case api.KPrint:
		return of(kind, whole(3))
	case api.KDo:
		return of(kind, sample(api.KCall))
	case api.KListT:
		return listType(intType())
	case api.KName, api.KCall:
		return of(kind).text("n")
	case api.KIndex:
		return of(kind, name("l"), whole(0))
	case api.KDot:
		return of(kind, name("r")).text("a")
	case api.KUn:
		return of(kind, whole(1)).num(api.OpNeg)
	case api.KBin:
		return of(kind, whole(1), whole(2)).num(api.OpAdd)
	case api.KMake:
		return of(kind, recType("R"))
	}
	return of(kind)
}

// within is a program in which a branch stands where its kind may be; a KProg is one itself.
func within(b branch) branch {
	block := func(l ...branch) branch {
		return of(api.KProg, of(api.KFn, of(api.KNoneT), of(api.KBlock, l...)).text("main"))
	}
	switch kind := b.node.Kind; {
	case kind == api.KProg:
		return b
	case kind == api.KField:
		return of(api.KProg, of(api.KRec, b).text("R"))
	case kind == api.KParam:
		return of(api.KProg, of(api.KFn, b, of(api.KNoneT), of(api.KBlock)).text("main").num(1))
	case kind == api.KBlock:
		return of(api.KProg, of(api.KFn, of(api.KNoneT), b).text("main"))
	case kind >= api.KVar && kind <= api.KDo:
		return block(b)
	case kind >= api.KNoneT && kind <= api.KListT:
		return of(api.KProg, of(api.KFn, b, of(api.KBlock)).text("main"))
	case kind >= api.KInt && kind <= api.KMake:
		return block(of(api.KPrint, b))
	}
	return of(api.KProg, b)
}

// everything is a program with each kind of node.
func everything() branch {
	record := of(api.KRec,
		of(api.KField, intType()).text("a"),
		of(api.KField, listType(listType(recType("Pair_2")))).text("_b"),
		of(api.KField, of(api.KBoolT)).text("c"),
	).text("Pair_2")
	helper := of(api.KFn,
		of(api.KParam, of(api.KStrT)).text("s"),
		of(api.KParam, of(api.KCompT)).text("z"),
		listType(intType()),
		of(api.KBlock,
			of(api.KReturn, of(api.KMake, listType(intType()), whole(math.MaxInt64))),
		),
	).text("helper").num(2)
	loop := of(api.KWhile,
		of(api.KBin, name("i"), whole(10)).num(api.OpLt),
		of(api.KBlock,
			of(api.KSet, name("i"), of(api.KBin, name("i"), whole(1)).num(api.OpAdd)),
			of(api.KSet, of(api.KIndex, name("l"), whole(0)), of(api.KUn, name("i")).num(api.OpNeg)),
			of(api.KSet, of(api.KDot, name("r")).text("a"), of(api.KNil)),
		),
	)
	choice := of(api.KIf,
		of(api.KBin, of(api.KBool).num(1), of(api.KUn, of(api.KBool)).num(api.OpNot)).num(api.OpOr),
		of(api.KBlock, of(api.KIf, name("b"), of(api.KBlock))),
		of(api.KBlock, of(api.KReturn)),
	)
	main := of(api.KFn,
		of(api.KNoneT),
		of(api.KBlock,
			of(api.KVar, recType("Pair_2"), of(api.KMake, recType("Pair_2"))).text("r"),
			of(api.KDo, of(api.KCall, of(api.KStr).text("any \xff\n"), of(api.KComp).num(8388607)).text("helper")),
			of(api.KPrint, of(api.KCall).text("read")),
			loop,
			choice,
		),
	).text("main")
	return of(api.KProg, record, helper, main)
}

// saidRight is what Right is to answer, said apart from the program.
func saidRight(l []api.Node) bool {
	if len(l) == 0 || l[0].Size != len(l)-1 {
		return false
	}
	for rest := l[1:]; len(rest) > 0; {
		size := rest[0].Size
		if size < 0 || size >= len(rest) || !saidRight(rest[:size+1]) {
			return false
		}
		rest = rest[size+1:]
	}
	return true
}

// saidUps are for each place of a right row the place of the node whose child it is.
func saidUps(l []api.Node) []int {
	ups := make([]int, len(l))
	var open func(at, up int) int
	open = func(at, up int) int {
		ups[at] = up
		next := at + 1
		for next < at+1+l[at].Size {
			next = open(next, at)
		}
		return next
	}
	open(0, -1)
	return ups
}

// said is what May is to answer, said apart from the program: children are their kinds, a blank behind each.
type said struct {
	kids        [256]*regexp.Regexp
	name, great *regexp.Regexp
}

func newSaid() said {
	d := said{
		name:  regexp.MustCompile(`\A[a-z_][a-zA-Z0-9_]*\z`),
		great: regexp.MustCompile(`\A[A-Z][a-zA-Z0-9_]*\z`),
	}
	// What isn't named between the first and the last has no children.
	words := strings.NewReplacer("T", "(?:1[5-9] |20 )", "E", "(?:2[1-9] |3[0-2] )", "S", "(?:[7-9] |1[0-3] )", "B", "6 ")
	for kind, pattern := range []string{
		1: "(?:2 |4 )*", 2: "(?:3 )*", 3: "T", 4: "(?:5 )*(?:14 |T)B", 5: "T", 6: "S*",
		7: "TE", 8: "(?:26 |28 |29 )E", 9: "EBB?", 10: "EB", 11: "E?", 12: "E", 13: "27 ",
		20: "T", 27: "E*", 28: "EE", 29: "E", 30: "E", 31: "EE", 32: "19 |20 E",
	} {
		// "6 " is two bytes: what may be left out is both.
		pattern = strings.ReplaceAll(pattern, "B?", "(?:B)?")
		d.kids[kind] = regexp.MustCompile(`\A(?:` + words.Replace(pattern) + `)\z`)
	}
	return d
}

func (d said) isName(s string) bool {
	const words = " rec fn var if else while return print true false nil make int bool str comp "
	return d.name.MatchString(s) && !strings.Contains(words, " "+s+" ")
}

func (d said) fieldsMay(n api.Node, params int) bool {
	text, num := n.Text == "", n.Num == 0
	switch n.Kind {
	case 2, 19:
		text = d.great.MatchString(n.Text)
	case 3, 4, 5, 7, 26, 27, 29:
		text = d.isName(n.Text)
	case 23:
		text = true
	}
	switch n.Kind {
	case 4:
		num = n.Num == int64(params)
	case 21:
		num = n.Num >= 0
	case 22:
		num = n.Num >= 0 && n.Num <= 8388607
	case 24:
		num = n.Num == 0 || n.Num == 1
	case 30:
		num = n.Num == 12 || n.Num == 13
	case 31:
		num = slices.Contains([]int64{1, 2, 3, 4, 5, 6, 7, 8, 9, 10, 11, 14, 15}, n.Num)
	}
	return text && num
}

func (d said) kidsMay(kind uint8, kids []uint8) bool {
	var text strings.Builder
	for _, k := range kids {
		fmt.Fprintf(&text, "%d ", k)
	}
	return d.kids[kind] != nil && d.kids[kind].MatchString(text.String())
}

func (d said) branchMay(l []api.Node) bool {
	var kids []uint8
	params := 0
	for rest := l[1:]; len(rest) > 0; rest = rest[rest[0].Size+1:] {
		if !d.branchMay(rest[:rest[0].Size+1]) {
			return false
		}
		kids = append(kids, rest[0].Kind)
		if rest[0].Kind == 5 {
			params++
		}
	}
	return d.kidsMay(l[0].Kind, kids) && d.fieldsMay(l[0], params)
}

func (d said) may(l []api.Node) bool {
	return saidRight(l) && l[0].Kind == 1 && d.branchMay(l)
}

func wantMay(t *testing.T, b branch, want bool) {
	t.Helper()
	if got := May(b.row()); got != want {
		t.Errorf("May: %v, want %v, of %v", got, want, b.row())
	}
}

// mayWithin asks of a branch, where its kind may be.
func mayWithin(b branch) bool { return May(within(b).row()) }

func wantWithin(t *testing.T, want bool, branches ...branch) {
	t.Helper()
	for _, b := range branches {
		if got := mayWithin(b); got != want {
			t.Errorf("May: %v, want %v, with %v", got, want, b.row())
		}
	}
}

// dice are numbers below others, the same ones each time.
type dice uint64

func (d *dice) below(count int) int {
	*d ^= *d << 13
	*d ^= *d >> 7
	*d ^= *d << 17
	return int((*d >> 20) % dice(count))
}

// rowsOfSizes are all rows of up to so many nodes whose Sizes are among these.
func rowsOfSizes(most int, sizes ...int) [][]api.Node {
	rows := [][]api.Node{{}}
	for from := 0; most > 0; most-- {
		to := len(rows)
		for _, row := range rows[from:to] {
			for _, size := range sizes {
				rows = append(rows, append(slices.Clip(row), api.Node{Size: size}))
			}
		}
		from = to
	}
	return rows
}

// edgeSizes are Sizes that fit into short rows, and some that fit nowhere.
func edgeSizes() []int {
	return []int{0, 1, 2, 3, 4, 5, 6, -1, math.MinInt, math.MaxInt, math.MaxInt - 1}
}

// rightRows are trees of all shapes that short rows can have, mixed greater ones, and long ones.
func rightRows() [][]api.Node {
	var rows [][]api.Node
	for _, row := range rowsOfSizes(6, 0, 1, 2, 3, 4, 5) {
		if saidRight(row) {
			rows = append(rows, row)
		}
	}
	d := dice(0x2545f4914f6cdd1d)
	for range 100 {
		rows = append(rows, mixed(&d, 4).row())
	}
	return append(rows, everything().row(), chain(60), wide(60))
}

func mixed(d *dice, depth int) branch {
	b := of(uint8(d.below(256)))
	if depth > 0 {
		for range d.below(5) {
			b.kids = append(b.kids, mixed(d, depth-1))
		}
	}
	return b
}

// chain is a row in which each node is the child of the one ahead of it.
func chain(count int) []api.Node {
	l := make([]api.Node, count)
	for at := range l {
		l[at].Size = count - 1 - at
	}
	return l
}

// wide is a row in which all nodes are children of the first one.
func wide(count int) []api.Node {
	l := make([]api.Node, count)
	l[0].Size = count - 1
	return l
}

// wrongRows are rows that are no trees, with a few nodes each.
func wrongRows() [][]api.Node {
	rows := [][]api.Node{nil, {}}
	for _, row := range rowsOfSizes(4, edgeSizes()...) {
		if !saidRight(row) {
			rows = append(rows, row)
		}
	}
	return rows
}

func TestExamples(t *testing.T) { // P5.1
	if l := []api.Node{{Kind: api.KProg}}; !Right(l) || !May(l) {
		t.Error("a KProg alone is a program's tree")
	}
	l := of(api.KIf, of(api.KBool), of(api.KBlock), of(api.KBlock)).row()
	if got := Kids(l, 0); l[0].Size != 3 || !slices.Equal(got, []int{1, 2, 3}) {
		t.Errorf("the children of a KIf: %v", got)
	}
	all := everything().row()
	if !Right(all) || !May(all) {
		t.Error("a program with each kind of node is no program's tree")
	}
	for kind := uint8(1); kind <= 32; kind++ {
		if !slices.ContainsFunc(all, func(n api.Node) bool { return n.Kind == kind }) {
			t.Errorf("kind %d is missing in the program with each kind", kind)
		}
	}
}

func TestEmptyRows(t *testing.T) { // P5.1, P0.4
	for _, l := range [][]api.Node{nil, {}, everything().row()[:0]} {
		if Right(l) || May(l) {
			t.Error("an empty row is right")
		}
		for _, at := range []int{-1, 0, 1, math.MinInt, math.MaxInt} {
			if kids := Kids(l, at); len(kids) != 0 || Up(l, at) != -1 {
				t.Errorf("an empty row: Kids %v, Up %d at %d", kids, Up(l, at), at)
			}
		}
		if len(Bare(l)) != 0 {
			t.Error("Bare of an empty row isn't empty")
		}
	}
	if !Same(nil, nil) || !Same(nil, []api.Node{}) || !Same([]api.Node{}, nil) {
		t.Error("empty rows aren't the same")
	}
}

func TestOneNode(t *testing.T) { // P5.1
	for kind := range 256 {
		for _, size := range []int{0, 1, 2, -1, math.MinInt, math.MaxInt} {
			l := []api.Node{{Kind: uint8(kind), Size: size}}
			if Right(l) != (size == 0) {
				t.Errorf("Right(%v): %v", l, Right(l))
			}
			if May(l) != (size == 0 && kind == api.KProg) {
				t.Errorf("May(%v): %v", l, May(l))
			}
			if len(Kids(l, 0)) != 0 || Up(l, 0) != -1 {
				t.Errorf("%v: Kids %v, Up %d", l, Kids(l, 0), Up(l, 0))
			}
		}
	}
}

func TestRightByHand(t *testing.T) { // P5.1
	for _, c := range []struct {
		want  bool
		sizes []int
	}{
		{true, []int{0}},
		{true, []int{1, 0}},
		{true, []int{2, 0, 0}},
		{true, []int{2, 1, 0}},
		{true, []int{3, 1, 0, 0}},
		{true, []int{3, 0, 1, 0}},
		{true, []int{3, 2, 1, 0}},
		{true, []int{3, 2, 0, 0}},
		{true, []int{6, 2, 1, 0, 2, 0, 0}},
		{false, []int{1}},                // the first Size is too great
		{false, []int{0, 0}},             // too small: two trees
		{false, []int{1, 0, 0}},          // too small
		{false, []int{1, 0, 1, 0}},       // two trees
		{false, []int{3, 0, 0}},          // too great
		{false, []int{1, 1}},             // beyond its node and the row
		{false, []int{2, 0, 1}},          // beyond both, at the end
		{false, []int{3, 1, 1, 0}},       // beyond its node, not beyond the row
		{false, []int{4, 2, 0, 1, 0}},    // beyond its node, not beyond the row
		{false, []int{4, 2, 1, 1, 0}},    // two of them
		{false, []int{5, 2, 0, 2, 0, 0}}, // a child that goes beyond its node by two
		{false, []int{-1}},
		{false, []int{-1, 0}},
		{false, []int{1, -1}},
		{false, []int{2, -1, 0}},
		{false, []int{2, 0, -1}},
		{false, []int{2, 1, -1}},
		{false, []int{3, 0, -2, 0}},
		{false, []int{math.MaxInt}},
		{false, []int{math.MinInt}},
		{false, []int{math.MaxInt, 0}},
		{false, []int{1, math.MaxInt}},
		{false, []int{1, math.MinInt}},
		{false, []int{2, math.MaxInt, 0}},
		{false, []int{2, math.MaxInt - 1, 0}},
		{false, []int{2, math.MaxInt - 2, 0}},
		{false, []int{2, 0, math.MaxInt - 1}},
		{false, []int{3, 1, math.MaxInt, 0}},
	} {
		var l []api.Node
		for _, size := range c.sizes {
			l = append(l, api.Node{Kind: api.KProg, Size: size})
		}
		if Right(l) != c.want {
			t.Errorf("Right of Sizes %v: %v", c.sizes, Right(l))
		}
	}
}

func TestRightOfAllShortRows(t *testing.T) { // P5.1, P0.1
	right := map[int]int{}
	for _, l := range rowsOfSizes(5, edgeSizes()...) {
		got := Right(l)
		if got != saidRight(l) {
			t.Fatalf("Right(%v): %v", l, got)
		}
		if got {
			right[len(l)]++
		}
	}
	// So many trees there are of one node, of two, ..
	for i, want := range []int{0, 1, 1, 2, 5, 14} {
		if right[i] != want {
			t.Errorf("%d right rows of %d nodes, want %d", right[i], i, want)
		}
	}
}

func TestRightLooksAtSizesAlone(t *testing.T) { // P5.1
	l := []api.Node{{Kind: 0, Size: 2, Num: -5, Text: "?", Line: -1, Col: math.MaxInt}, {Kind: 255, Size: 1}, {Kind: 33, Num: math.MinInt64}}
	if !Right(l) || !slices.Equal(Kids(l, 0), []int{1}) || Up(l, 2) != 1 {
		t.Error("Right, Kids or Up asks more than Sizes")
	}
	if May(l) {
		t.Error("kinds that are none may be")
	}
}

func TestLongRows(t *testing.T) { // P5.1, P0.1
	const count = 1 << 17
	deep, flat := chain(count), wide(count)
	if !Right(deep) || !Right(flat) {
		t.Fatal("long rows aren't right")
	}
	if Up(deep, count-1) != count-2 || Up(flat, count-1) != 0 || len(Kids(flat, 0)) != count-1 || !slices.Equal(Kids(deep, count-2), []int{count - 1}) {
		t.Error("Kids or Up of a long row")
	}
	deep[count-1].Size, flat[count-1].Size = 1, 1
	if Right(deep) || Right(flat) {
		t.Error("a last node with one behind it is right")
	}
	b := whole(1)
	for range 1 << 12 {
		b = of(api.KUn, b).num(api.OpNot)
	}
	wantWithin(t, true, b)
}

func TestKidsAndUp(t *testing.T) { // P5.1, P5.2
	for _, l := range rightRows() {
		ups := saidUps(l)
		for at := range l {
			var want []int
			for kid, up := range ups {
				if up == at {
					want = append(want, kid)
				}
			}
			if got := Kids(l, at); !slices.Equal(got, want) {
				t.Fatalf("Kids(%v, %d): %v, want %v", l, at, got, want)
			}
			if got := Up(l, at); got != ups[at] {
				t.Fatalf("Up(%v, %d): %d, want %d", l, at, got, ups[at])
			}
		}
	}
}

func TestKidsAndUpByHand(t *testing.T) { // P5.1
	// Sizes 6 2 1 0 2 0 0: the first one's children are at 1 and 4.
	b := of(1, of(2, of(3, of(4))), of(5, of(6), of(7)))
	l := b.row()
	for at, want := range [][]int{{1, 4}, {2}, {3}, {}, {5, 6}, {}, {}} {
		if got := Kids(l, at); !slices.Equal(got, want) {
			t.Errorf("Kids at %d: %v, want %v", at, got, want)
		}
	}
	for at, want := range []int{-1, 0, 1, 2, 0, 4, 4} {
		if got := Up(l, at); got != want {
			t.Errorf("Up at %d: %d, want %d", at, got, want)
		}
	}
}

func TestNoSuchPlace(t *testing.T) { // P5.1, P0.1
	for _, l := range rightRows() {
		for _, at := range []int{-1, -2, len(l), len(l) + 1, -len(l), math.MinInt, math.MinInt + 1, math.MaxInt, math.MaxInt - 1} {
			if kids, up := Kids(l, at), Up(l, at); len(kids) != 0 || up != -1 {
				t.Fatalf("of %d nodes at %d: Kids %v, Up %d", len(l), at, kids, up)
			}
		}
	}
}

func TestKidsAndUpOfWrongRows(t *testing.T) { // P5.1, P0.1
	for _, l := range wrongRows() {
		for at := -2; at < len(l)+3; at++ {
			if kids, up := Kids(l, at), Up(l, at); len(kids) != 0 || up != -1 {
				t.Fatalf("of %v at %d: Kids %v, Up %d", l, at, kids, up)
			}
		}
		if May(l) {
			t.Fatalf("May(%v)", l)
		}
	}
	// The fault may be far from the place: all of the row is asked.
	l := everything().row()
	l[len(l)-1].Size = 1
	if len(Kids(l, 0)) != 0 || len(Kids(l, 1)) != 0 || Up(l, 1) != -1 || Up(l, 2) != -1 {
		t.Error("Kids or Up of a row whose last node is wrong")
	}
}

func TestEachNodeIsTheChildOfJustOne(t *testing.T) { // P5.2
	for _, l := range rightRows() {
		met := make([]int, len(l))
		for at := range l {
			for _, kid := range Kids(l, at) {
				met[kid]++
				if Up(l, kid) != at {
					t.Fatalf("%d is a child of %d, but its Up is %d, in %v", kid, at, Up(l, kid), l)
				}
			}
		}
		for at, count := range met {
			if want := min(at, 1); count != want {
				t.Fatalf("%d is the child of %d nodes, in %v", at, count, l)
			}
			if at > 0 && !slices.Contains(Kids(l, Up(l, at)), at) {
				t.Fatalf("%d isn't among the children of its Up, in %v", at, l)
			}
		}
	}
}

func TestEachKindAlone(t *testing.T) { // P5.1
	for kind := range 256 {
		// Kinds that are none stand where a KRec or a KFn may be.
		wantWithin(t, kind >= 1 && kind <= 32, sample(uint8(kind)))
	}
}

func TestFirstOne(t *testing.T) { // P5.1
	for kind := range 256 {
		if kind != api.KProg {
			wantMay(t, sample(uint8(kind)), false)
		}
	}
	for _, b := range []branch{
		of(api.KProg, of(api.KProg)),
		of(api.KRec, of(api.KProg)).text("R"),
		of(api.KBlock, sample(api.KReturn)),
		of(api.KProg, of(api.KFn, of(api.KNoneT), of(api.KBlock), of(api.KProg)).text("f")),
		of(api.KProg, of(api.KFn, of(api.KNoneT), of(api.KProg)).text("f")),
		of(api.KProg, of(api.KFn, of(api.KNoneT), of(api.KBlock, of(api.KProg))).text("f")),
		of(api.KProg, sample(api.KRec), of(api.KProg)),
	} {
		wantMay(t, b, false)
	}
}

func TestPrograms(t *testing.T) { // P5.1
	rec, fn := sample(api.KRec), sample(api.KFn)
	for _, l := range [][]branch{{}, {rec}, {fn}, {rec, fn}, {fn, rec}, {rec, rec, fn, fn, rec}} {
		wantMay(t, of(api.KProg, l...), true)
	}
	for kind := range 256 {
		b := sample(uint8(kind))
		want := kind == api.KRec || kind == api.KFn
		wantMay(t, of(api.KProg, b), want)
		wantMay(t, of(api.KProg, rec, b), want)
		wantMay(t, of(api.KProg, b, fn), want)
	}
}

func TestFunctions(t *testing.T) { // P5.1
	param, none, block := sample(api.KParam), of(api.KNoneT), of(api.KBlock)
	fn := func(count int64, kids ...branch) branch { return of(api.KFn, kids...).text("f").num(count) }
	wantWithin(t, true,
		fn(0, none, block), fn(0, intType(), block), fn(0, listType(recType("R")), block),
		fn(1, param, none, block), fn(1, param, of(api.KStrT), block), fn(2, param, param, none, block),
		fn(30, append(slices.Repeat([]branch{param}, 30), none, block)...),
		fn(0, none, of(api.KBlock, sample(api.KReturn), sample(api.KDo))),
	)
	wantWithin(t, false,
		fn(0), fn(0, none), fn(0, block), fn(0, block, none), fn(0, none, none), fn(0, block, block),
		fn(0, none, block, block), fn(0, none, none, block), fn(0, intType(), none, block), fn(0, none, block, param),
		fn(0, param, none, block), fn(2, param, none, block), fn(1, none, block), fn(1, none, param, block),
		fn(1, param, none), fn(1, param, block), fn(1, param), fn(2, param, param), fn(2, none, block),
		fn(1, param, param, none, block), fn(3, param, param, none, block), fn(1, sample(api.KField), none, block),
		fn(2, param, sample(api.KVar), none, block), fn(2, sample(api.KVar), param, none, block),
		fn(0, of(api.KNil), block), fn(0, none, sample(api.KReturn)), fn(0, none, sample(api.KIf)),
	)
	for _, count := range []int64{-1, -2, -3, 1, 2, 3, 4, math.MinInt64, math.MinInt64 + 1, math.MaxInt64, math.MaxInt64 - 1, 1 << 32, 1 << 31, 1 << 62} {
		wantWithin(t, false, fn(count), fn(count, none, block), fn(count, block))
	}
	for _, count := range []int64{-1, 0, 2, 3, 1<<32 + 1, math.MinInt64, math.MaxInt64} {
		wantWithin(t, false, fn(count, param, none, block))
	}
}

func TestStatements(t *testing.T) { // P5.1
	block, call := of(api.KBlock), sample(api.KCall)
	one := whole(1)
	wantWithin(t, true,
		of(api.KVar, of(api.KBoolT), of(api.KNil)).text("v"),
		of(api.KSet, name("a"), one), of(api.KSet, sample(api.KIndex), one), of(api.KSet, sample(api.KDot), call),
		of(api.KIf, one, block), of(api.KIf, one, block, block), of(api.KWhile, one, block),
		of(api.KReturn), of(api.KReturn, one), of(api.KPrint, one), of(api.KDo, call),
	)
	wantWithin(t, false,
		of(api.KVar).text("v"), of(api.KVar, intType()).text("v"), of(api.KVar, one).text("v"),
		of(api.KVar, one, intType()).text("v"), of(api.KVar, intType(), one, one).text("v"),
		of(api.KVar, of(api.KNoneT), one).text("v"), of(api.KVar, intType(), intType()).text("v"),
		of(api.KSet), of(api.KSet, name("a")), of(api.KSet, one, one), of(api.KSet, call, one), of(api.KSet, one, name("a")),
		of(api.KSet, name("a"), one, one), of(api.KSet, name("a"), intType()), of(api.KSet, sample(api.KMake), one),
		of(api.KIf), of(api.KIf, one), of(api.KIf, block), of(api.KIf, block, one), of(api.KIf, one, block, block, block),
		of(api.KIf, one, block, one), of(api.KIf, one, one, block), of(api.KIf, block, block), of(api.KIf, one, block, sample(api.KIf)),
		of(api.KWhile), of(api.KWhile, one), of(api.KWhile, block), of(api.KWhile, block, one), of(api.KWhile, one, block, block),
		of(api.KReturn, one, one), of(api.KReturn, block), of(api.KReturn, intType()), of(api.KReturn, of(api.KNoneT)),
		of(api.KPrint), of(api.KPrint, one, one), of(api.KPrint, block), of(api.KPrint, of(api.KStrT)),
		of(api.KDo), of(api.KDo, one), of(api.KDo, name("a")), of(api.KDo, call, call), of(api.KDo, call, one),
	)
}

func TestBlocks(t *testing.T) { // P5.1
	for kind := range 256 {
		b := sample(uint8(kind))
		want := kind >= api.KVar && kind <= api.KDo
		wantWithin(t, want, of(api.KBlock, b), of(api.KBlock, sample(api.KReturn), b), of(api.KBlock, b, sample(api.KPrint)))
	}
	wantWithin(t, true, of(api.KBlock), of(api.KBlock, slices.Repeat([]branch{sample(api.KDo)}, 50)...))
}

func TestRecords(t *testing.T) { // P5.1
	field := sample(api.KField)
	rec := func(kids ...branch) branch { return of(api.KRec, kids...).text("R") }
	wantWithin(t, true, rec(), rec(field), rec(field, field, field))
	wantWithin(t, false, rec(sample(api.KParam)), rec(field, intType()), rec(intType(), field), rec(rec()), rec(sample(api.KVar)))
	for _, kind := range []uint8{api.KField, api.KParam} {
		for _, b := range []branch{of(api.KIntT), of(api.KBoolT), of(api.KStrT), of(api.KCompT), recType("R"), listType(intType())} {
			wantWithin(t, true, of(kind, b).text("a"))
			wantWithin(t, false, of(kind, b, b).text("a"))
		}
		wantWithin(t, false, of(kind).text("a"), of(kind, of(api.KNoneT)).text("a"), of(kind, whole(1)).text("a"), of(kind, of(api.KBlock)).text("a"))
	}
}

func TestTypes(t *testing.T) { // P5.1
	wantWithin(t, true, of(api.KNoneT), intType(), of(api.KBoolT), of(api.KStrT), of(api.KCompT), recType("R"), listType(listType(recType("R"))))
	for kind := uint8(api.KNoneT); kind <= api.KRecT; kind++ {
		b := sample(kind)
		b.kids = []branch{intType()}
		wantWithin(t, false, b)
	}
	wantWithin(t, false, of(api.KListT), listType(of(api.KNoneT)), of(api.KListT, intType(), intType()), listType(whole(1)), listType(of(api.KListT)))
}

func TestExpressions(t *testing.T) { // P5.1
	one, list := whole(1), listType(intType())
	call := func(kids ...branch) branch { return of(api.KCall, kids...).text("f") }
	dot := func(kids ...branch) branch { return of(api.KDot, kids...).text("a") }
	un := func(kids ...branch) branch { return of(api.KUn, kids...).num(api.OpNot) }
	bin := func(kids ...branch) branch { return of(api.KBin, kids...).num(api.OpSub) }
	wantWithin(t, true,
		call(), call(one), call(one, one, one), of(api.KIndex, one, one), dot(one), un(one), bin(one, one),
		of(api.KMake, recType("R")), of(api.KMake, list, one), un(un(bin(call(one), dot(of(api.KNil))))),
	)
	wantWithin(t, false,
		call(intType()), call(one, sample(api.KReturn)), call(sample(api.KReturn), one), call(of(api.KBlock)),
		of(api.KIndex), of(api.KIndex, one), of(api.KIndex, one, one, one), of(api.KIndex, one, list), of(api.KIndex, list, one),
		dot(), dot(one, one), dot(recType("R")), un(), un(one, one), un(intType()),
		bin(), bin(one), bin(one, one, one), bin(one, intType()), bin(of(api.KBlock), one),
		of(api.KMake), of(api.KMake, list), of(api.KMake, one, list), of(api.KMake, list, list), of(api.KMake, list, one, one),
		of(api.KMake, recType("R"), one), of(api.KMake, intType()), of(api.KMake, intType(), one), of(api.KMake, one),
		of(api.KMake, of(api.KNoneT)), of(api.KMake, recType("R"), recType("R")),
	)
	for kind := uint8(api.KInt); kind <= api.KName; kind++ {
		b := sample(kind)
		b.kids = []branch{one}
		wantWithin(t, false, b)
	}
}

// TestAllShortRowsOfChildren gives each kind all rows of up to two children of any kind, and of three telling ones.
func TestAllShortRowsOfChildren(t *testing.T) { // P5.1
	d := newSaid()
	rows := [][]uint8{{}}
	for a := range uint8(35) {
		rows = append(rows, []uint8{a})
		for b := range uint8(35) {
			rows = append(rows, []uint8{a, b})
		}
	}
	telling := []uint8{0, api.KParam, api.KBlock, api.KVar, api.KDo, api.KNoneT, api.KIntT, api.KRecT, api.KListT, api.KInt, api.KName, api.KCall, api.KMake}
	for _, a := range telling {
		for _, b := range telling {
			for _, c := range telling {
				rows = append(rows, []uint8{a, b, c})
			}
		}
	}
	right := 0
	for kind := uint8(1); kind <= 32; kind++ {
		for _, row := range rows {
			b := sample(kind)
			b.kids = nil
			for _, k := range row {
				b.kids = append(b.kids, sample(k))
			}
			if kind == api.KFn {
				b.node.Num = int64(bytesOf(row, api.KParam))
			}
			got := mayWithin(b)
			if want := d.kidsMay(kind, row); got != want {
				t.Fatalf("kind %d with children %v: %v, want %v", kind, row, got, want)
			}
			if got {
				right++
			}
		}
	}
	if right < 800 {
		t.Errorf("only %d are right", right)
	}
}

func bytesOf(row []uint8, kind uint8) int {
	count := 0
	for _, k := range row {
		if k == kind {
			count++
		}
	}
	return count
}

func edgeNums() []int64 {
	l := []int64{math.MinInt64, math.MinInt64 + 1, -1 << 32, -8388608, -2, -1, 255, 256, 257, 8388606, 8388607, 8388608, 8388609, 1 << 32, 1<<32 + 1, math.MaxInt64 - 1, math.MaxInt64}
	for n := range int64(20) {
		l = append(l, n)
	}
	return l
}

func TestNums(t *testing.T) { // P5.1
	for kind := uint8(1); kind <= 32; kind++ {
		for _, n := range edgeNums() {
			want := n == 0
			switch kind {
			case api.KInt:
				want = n >= 0
			case api.KComp:
				want = n >= 0 && n <= 8388607
			case api.KBool:
				want = n == 0 || n == 1
			case api.KUn:
				want = n == 12 || n == 13
			case api.KBin:
				want = n >= 1 && n <= 11 || n == 14 || n == 15
			}
			wantWithin(t, want, sample(kind).num(n))
		}
	}
}

// edgeTexts are names, great names, words, and texts that are none.
func edgeTexts() []string {
	l := []string{"", "a", "_", "x1", "aB_9", "A", "R2_d", "Zz", "1", "1a", " ", "a ", " a", "a b", "a.b", "\x00", "a\x00", "\xff", "a\xff", "A\x80", "\u00e9", "a\u00e9", "\u00c9", "A\u00c9", "\ufffd", "Fn", "FN", "fns", "fn_", "If", "any text\n", "main", "read"}
	return append(l, words()...)
}

func words() []string {
	return strings.Fields("rec fn var if else while return print true false nil make int bool str comp")
}

func TestTexts(t *testing.T) { // P5.1
	names := []string{"a", "_", "x1", "aB_9", "fns", "fn_", "main", "read"}
	greats := []string{"A", "R2_d", "Zz", "Fn", "FN", "If"}
	for kind := uint8(1); kind <= 32; kind++ {
		for _, s := range edgeTexts() {
			want := s == ""
			switch kind {
			case api.KRec, api.KRecT:
				want = slices.Contains(greats, s)
			case api.KField, api.KParam, api.KFn, api.KVar, api.KName, api.KCall, api.KDot:
				want = slices.Contains(names, s)
			case api.KStr:
				want = true
			}
			wantWithin(t, want, sample(kind).text(s))
		}
	}
}

func TestPlacesAreAny(t *testing.T) { // P5.1
	for _, place := range []int{0, 1, -1, 7, math.MinInt, math.MaxInt} {
		for _, other := range []int{0, 3, -1, math.MinInt, math.MaxInt} {
			l := everything().row()
			for at := range l {
				l[at].Line, l[at].Col = place, other
			}
			if !Right(l) || !May(l) {
				t.Errorf("lines %d and columns %d: no program's tree", place, other)
			}
			if Up(l, 5) != Up(everything().row(), 5) || !slices.Equal(Kids(l, 0), Kids(everything().row(), 0)) {
				t.Errorf("lines %d and columns %d: Up or Kids are others", place, other)
			}
		}
	}
}

// TestMayOfChangedPrograms changes a program with each kind of node in one place each.
func TestMayOfChangedPrograms(t *testing.T) { // P5.1, P0.1
	d := newSaid()
	right, wrong := 0, 0
	hold := func(l []api.Node) {
		t.Helper()
		want := d.may(l)
		if got := May(l); got != want {
			t.Fatalf("May: %v, want %v, of %v", got, want, l)
		}
		if want {
			right++
		} else {
			wrong++
		}
	}
	l := everything().row()
	for at := range l {
		was := l[at]
		for kind := range 256 {
			l[at].Kind = uint8(kind)
			hold(l)
		}
		l[at] = was
		for _, l[at].Num = range edgeNums() {
			hold(l)
		}
		l[at] = was
		for _, l[at].Text = range edgeTexts() {
			hold(l)
		}
		l[at] = was
		for _, l[at].Size = range []int{was.Size - 1, was.Size + 1, 0, 1, 2, -1, math.MinInt, math.MaxInt, math.MaxInt - at, len(l), len(l) - 1, len(l) - at, len(l) - at - 1} {
			hold(l)
		}
		l[at] = was
	}
	for _, b := range changedBranches(everything()) {
		hold(b.row())
	}
	if right < 1400 || wrong < 20000 {
		t.Errorf("%d right, %d wrong ones", right, wrong)
	}
}

// changedBranches are copies of a branch: in each a child more, a child less, another child, or two in another order.
func changedBranches(whole branch) []branch {
	var l []branch
	change := func(at int, by func(b *branch)) {
		b := whole.copied()
		by(b.all()[at])
		l = append(l, b)
	}
	for at, b := range whole.all() {
		for kid := range len(b.kids) + 1 {
			for kind := range uint8(34) {
				change(at, func(b *branch) { b.kids = slices.Insert(b.kids, kid, sample(kind)) })
			}
		}
		for kid := range b.kids {
			change(at, func(b *branch) { b.kids = slices.Delete(b.kids, kid, kid+1) })
			change(at, func(b *branch) { b.kids = slices.Insert(b.kids, kid, b.kids[kid]) })
			for kind := range uint8(34) {
				change(at, func(b *branch) { b.kids[kid] = sample(kind) })
			}
			for other := range kid {
				change(at, func(b *branch) { b.kids[kid], b.kids[other] = b.kids[other], b.kids[kid] })
			}
		}
	}
	return l
}

func TestBare(t *testing.T) { // P5.1
	rows := append(rightRows()[:100], everything().row(), []api.Node{{Size: -1, Kind: 255, Num: -7, Text: "\xff"}, {Size: math.MaxInt}}, []api.Node{{Kind: 9}})
	for _, l := range rows {
		placed := slices.Clone(l)
		for at := range placed {
			placed[at].Line, placed[at].Col = at+1, -at
		}
		placed[0].Line, placed[0].Col = math.MaxInt, math.MinInt
		if got := Bare(placed); !slices.Equal(got, l) {
			t.Fatalf("Bare(%v): %v", placed, got)
		}
	}
	l := []api.Node{{Kind: 26, Line: 3, Col: 4, Size: 5, Num: 6, Text: "a"}, {Kind: 21, Col: 1}, {Kind: 22, Line: 1}}
	if got := Bare(l); !slices.Equal(got, []api.Node{{Kind: 26, Size: 5, Num: 6, Text: "a"}, {Kind: 21}, {Kind: 22}}) {
		t.Errorf("Bare(%v): %v", l, got)
	}
}

func TestBareSharesNothing(t *testing.T) { // P0.3
	room := []api.Node{{Kind: 1, Line: 1, Col: 2}, {Kind: 2, Line: 3, Col: 4}, {Kind: 3, Line: 5, Col: 6}, {Kind: 4, Line: 7, Col: 8}}
	was := slices.Clone(room)
	got := Bare(room[:2])
	if !slices.Equal(room, was) {
		t.Errorf("Bare changed what it was given: %v", room)
	}
	got[0].Kind, got[1].Text = 99, "written over"
	got = append(got, api.Node{Kind: 98})
	if !slices.Equal(room, was) {
		t.Errorf("what Bare answered shares memory with what it was given: %v", room)
	}
	other := Bare(room[:2])
	if !slices.Equal(other, []api.Node{{Kind: 1}, {Kind: 2}}) {
		t.Errorf("Bare kept what another call answered: %v", other)
	}
	room[0].Kind = 77
	if other[0].Kind != 1 {
		t.Error("Bare kept what it was given")
	}
	// Also where there is nothing to leave out.
	plain := []api.Node{{Kind: 5}}
	Bare(plain)[0].Kind = 6
	if plain[0].Kind != 5 {
		t.Error("what Bare answered of a row without places is that row")
	}
}

func TestSame(t *testing.T) { // P5.1
	all := everything().row()
	if !Same(all, all) || !Same(all, everything().row()) {
		t.Error("a row isn't the same as itself")
	}
	for at := range all {
		other := slices.Clone(all)
		for _, c := range []struct {
			what   string
			change func(n *api.Node)
			want   bool
		}{
			{"Line", func(n *api.Node) { n.Line++ }, true},
			{"Col", func(n *api.Node) { n.Col = math.MinInt }, true},
			{"Line and Col", func(n *api.Node) { n.Line, n.Col = math.MaxInt, -1 }, true},
			{"Kind", func(n *api.Node) { n.Kind++ }, false},
			{"Size", func(n *api.Node) { n.Size++ }, false},
			{"Num", func(n *api.Node) { n.Num-- }, false},
			{"great Num", func(n *api.Node) { n.Num += 1 << 40 }, false},
			{"Text", func(n *api.Node) { n.Text += "a" }, false},
			{"Kind and Line", func(n *api.Node) { n.Kind, n.Line = 0, 5 }, false},
		} {
			c.change(&other[at])
			if Same(all, other) != c.want || Same(other, all) != c.want {
				t.Errorf("another %s at %d: Same isn't %v", c.what, at, c.want)
			}
			other[at] = all[at]
		}
	}
}

func TestSameOfRowsThatAreNotRight(t *testing.T) { // P5.1
	a := []api.Node{{Size: -4, Line: 3}, {Size: math.MaxInt}}
	b := []api.Node{{Size: -4, Col: 9}, {Size: math.MaxInt, Line: -1}}
	if !Same(a, b) || Same(a, b[:1]) || Same(a[:1], b) || Same(a, nil) || Same(nil, b) || Same(a, []api.Node{}) {
		t.Error("Same of rows that aren't right, or of another length")
	}
	if Same(a, append(slices.Clone(a), api.Node{})) || Same(append(slices.Clone(a), api.Node{}), a) || Same([]api.Node{{}}, nil) {
		t.Error("a row with a zero node more is the same")
	}
	if Same([]api.Node{{Kind: 1}, {Kind: 2}}, []api.Node{{Kind: 2}, {Kind: 1}}) {
		t.Error("another order is the same")
	}
	rows := wrongRows()[:200]
	for i, x := range rows {
		for k, y := range rows {
			if Same(x, y) != (i == k || len(x)+len(y) == 0) {
				t.Fatalf("Same(%v, %v): %v", x, y, Same(x, y))
			}
		}
	}
}

func TestNothingIsChanged(t *testing.T) { // P0.3, P0.5
	room := append(everything().row(), api.Node{Kind: 1, Line: 1, Col: 1, Text: "behind"})
	was := slices.Clone(room)
	l := room[: len(room)-1 : len(room)]
	for range 2 {
		if !Right(l) || !May(l) || !Same(l, was[:len(l)]) {
			t.Error("the second answer is another one")
		}
		for at := range l {
			kids := Kids(l, at)
			again := slices.Clone(kids)
			for i := range kids {
				kids[i] = -9
			}
			if got := Kids(l, at); !slices.Equal(got, again) {
				t.Errorf("Kids at %d, written into: %v, want %v", at, got, again)
			}
			Up(l, at)
		}
		if !slices.Equal(room, was) {
			t.Fatal("what was handed in was changed")
		}
	}
}

// nameTexts are the texts that Name and Great are held against what is said with.
func nameTexts() []string {
	l := append(edgeTexts(), "i", "I", "__", "_A", "_1", "aZ", "Az", "A1", "A_", "a-b", "a#", "#a", "\"a\"", "a\n", "\na", "a\r", "a\tb", "len", "Rec", "INT", "int1", "int ", " int", "int\n", "in", "ints", "intint", "int bool",
		"\u0430", "a\u0430", "\u0410", "A\u0410", "\u03b1", "a\u03b1", "\u00aa", "a\u00aa", "a\u0661", "\u0661", "\uff41", "a\uff41", "\uff21", "A\uff21", "a\uff11", "\u2170", "a\u0301", "\u65e5", "a\u65e5", "\U0001d41a", "\U0001f600", "a\U0001f600", "\u017f", "\u212a", "a\u200b", "\ufeffa", "a\u2028",
		"\xc3", "a\xc3", "a\xc3\xa9", "\xa9", "a\xed\xa0\x80", "a\xf4\x90\x80\x80", "\xc1\xa1", "a\xc1\xa1", "A\xe0\x81\x81", "a\ufffdb", "\x80a", "\xe1a",
		strings.Repeat("a", 70000), strings.Repeat("A", 70000), strings.Repeat("a", 70000)+"-", strings.Repeat("_", 300)+"\xff")
	for n := range 256 {
		b := string([]byte{byte(n)})
		l = append(l, b, b+"a", b+"A", "a"+b, "A"+b, "_"+b, "ab"+b, "AB"+b, "a"+b+"c", "A"+b+"C", b+b)
	}
	for _, w := range words() {
		l = append(l, strings.ToUpper(w), strings.ToUpper(w[:1])+w[1:], w+"_", "_"+w, w+"1", w[:len(w)-1], w[1:], w+w, w+"\x00", w+" ", w+"\xff")
	}
	texts := []string{""}
	for range 4 {
		for _, s := range texts {
			for _, b := range []string{"f", "n", "_", "F", "1", "\xc3", "\xa9", " "} {
				l = append(l, s+b)
			}
		}
		texts = l[len(l)-8*len(texts):]
	}
	return l
}

func TestNames(t *testing.T) { // P5.1, P0.1
	d := newSaid()
	for _, s := range nameTexts() {
		if got, want := Name(s), d.isName(s); got != want {
			t.Errorf("Name(%.40q): %v", s, got)
		}
		if got, want := Great(s), d.great.MatchString(s); got != want {
			t.Errorf("Great(%.40q): %v", s, got)
		}
	}
}

func TestNamesByHand(t *testing.T) { // P5.1
	for _, s := range []string{"a", "z", "_", "__", "x1", "_9", "aB", "camelCase", "az_AZ09", "fns", "ifelse", "main", "len", "read"} {
		if !Name(s) || Great(s) {
			t.Errorf("%q: Name %v, Great %v", s, Name(s), Great(s))
		}
	}
	for _, s := range []string{"A", "Z", "Pair", "P2", "A_", "Az_AZ09", "ALL", "Int", "Fn"} {
		if Name(s) || !Great(s) {
			t.Errorf("%q: Name %v, Great %v", s, Name(s), Great(s))
		}
	}
	none := append(words(), "", "1", "1a", "9_", " a", "a ", "a b", "a-b", "a.b", "A.B", "#", "\"a\"", "\u00e9", "a\u00e9", "A\u00c9", "\u00c9", "\xff", "a\xff", "A\xff", "a\x00", "A\n", "`", "{", "@", "[", "/", ":")
	for _, s := range none {
		if Name(s) || Great(s) {
			t.Errorf("%q: Name %v, Great %v", s, Name(s), Great(s))
		}
	}
}

func TestNamesAreThoseOfLayer4(t *testing.T) { // P5.1
	for _, s := range nameTexts() {
		if len(s) > api.MaxText {
			continue
		}
		l, f := lex.Tokens(s)
		// The whole text must be one token: blanks and notes are none.
		alone := f.Code == api.OK && len(l) == 2 && l[0].Text == s
		if want := alone && l[0].Kind == api.TokName; Name(s) != want {
			t.Errorf("Name(%q): %v, but its tokens are %v", s, Name(s), l)
		}
		if want := alone && l[0].Kind == api.TokBig; Great(s) != want {
			t.Errorf("Great(%q): %v, but its tokens are %v", s, Great(s), l)
		}
	}
}
