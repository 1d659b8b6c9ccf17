package gauss

import (
	"math"
	"strconv"
	"strings"
	"testing"

	"hindcast/api"
)

const (
	low  = -1 << 23
	high = 1<<23 - 1
)

// parts are the parts next to 0 and to both ends, within them.
func parts() []int64 {
	return []int64{0, 1, -1, 2, -3, 10, 4095, 4096, -4097, 1 << 22, -1 << 22, high, high - 1, low, low + 1}
}

// beyond are parts that may not be, just behind an end and far behind it.
func beyond() []int64 {
	return []int64{high + 1, low - 1, high + 2, low - 2, 1 << 24, -1 << 24, 1<<24 + 5, -1<<24 - 5, 1<<31 + 7, -1<<32 - 1, 1<<47 + 3, 1<<53 + 1, -1<<53 - 1, 1<<62 + 12345, math.MaxInt64, math.MaxInt64 - 1, math.MinInt64, math.MinInt64 + 1}
}

// mixed are parts of all sizes, the same ones each time.
func mixed(count int) []int64 {
	var l []int64
	x := uint64(0x9e3779b97f4a7c15)
	for i := range count {
		x ^= x << 13
		x ^= x >> 7
		x ^= x << 17
		l = append(l, int64(x)>>(40+i%24))
	}
	return l
}

func pairs(l []int64) []api.Comp {
	var all []api.Comp
	for _, re := range l {
		for _, im := range l {
			all = append(all, api.Comp{Re: re, Im: im})
		}
	}
	return all
}

// inside are numbers that may be.
func inside() []api.Comp {
	all := pairs(parts())
	m := mixed(200)
	for i := range len(m) / 2 {
		all = append(all, api.Comp{Re: m[i], Im: m[len(m)-1-i]})
	}
	return all
}

// outside are numbers of which one part or both may not be.
func outside() []api.Comp {
	all := pairs(beyond())
	for i, far := range beyond() {
		near := parts()[i%len(parts())]
		all = append(all, api.Comp{Re: far, Im: near}, api.Comp{Re: near, Im: far})
	}
	return all
}

// few is what properties of three numbers are tried on.
func few() []api.Comp {
	all := []api.Comp{{}, {Re: 1}, {Im: 1}, {Re: -1}, {Re: low, Im: low}, {Re: high, Im: low}, {Re: low, Im: high}, {Re: high, Im: high}, {Re: 4097, Im: -4099}, {Re: math.MaxInt64, Im: math.MinInt64}, {Re: high + 1, Im: low - 1}}
	m := mixed(40)
	for i := range len(m) / 2 {
		all = append(all, api.Comp{Re: m[i], Im: m[len(m)-1-i]})
	}
	return all
}

// round is the part that differs by a multiple of 2^24, found without bits.
func round(a int64) int64 {
	r := a % (1 << 24)
	if r > high {
		return r - 1<<24
	}
	if r < low {
		return r + 1<<24
	}
	return r
}

func rounded(a api.Comp) api.Comp { return api.Comp{Re: round(a.Re), Im: round(a.Im)} }

func TestMay(t *testing.T) { // P2.1
	for _, a := range inside() {
		if !May(a) {
			t.Errorf("May(%v): false", a)
		}
	}
	for _, a := range outside() {
		if May(a) {
			t.Errorf("May(%v): true", a)
		}
	}
	for _, a := range []api.Comp{{Re: high + 1}, {Im: high + 1}, {Re: low - 1}, {Im: low - 1}} {
		if May(a) {
			t.Errorf("May(%v): true", a)
		}
	}
}

func TestOf(t *testing.T) { // P2.1
	for _, c := range []struct{ re, im, wantRe, wantIm int64 }{
		{0, 0, 0, 0},
		{3, -4, 3, -4},
		{low, high, low, high},
		{high, low, high, low},
		{high + 1, 0, low, 0},
		{0, high + 1, 0, low},
		{low - 1, high + 2, high, low + 1},
		{1 << 24, -1 << 24, 0, 0},
		{1<<24 + 5, -1<<24 - 5, 5, -5},
		{math.MaxInt64, math.MinInt64, -1, 0},
		{1<<53 + 1, -1<<53 - 1, 1, -1},
	} {
		if got := Of(c.re, c.im); got != (api.Comp{Re: c.wantRe, Im: c.wantIm}) {
			t.Errorf("Of(%d, %d): %v, want %d, %d", c.re, c.im, got, c.wantRe, c.wantIm)
		}
	}
	for _, a := range append(inside(), outside()...) {
		if got := Of(a.Re, a.Im); got != rounded(a) || !May(got) {
			t.Errorf("Of(%d, %d): %v, want %v", a.Re, a.Im, got, rounded(a))
		}
	}
}

func TestReckoned(t *testing.T) { // P2.1
	for _, c := range []struct{ a, b, sum, less, product api.Comp }{
		{api.Comp{Re: 1, Im: 2}, api.Comp{Re: 3, Im: 4}, api.Comp{Re: 4, Im: 6}, api.Comp{Re: -2, Im: -2}, api.Comp{Re: -5, Im: 10}},
		{api.Comp{Im: 1}, api.Comp{Im: 1}, api.Comp{Im: 2}, api.Comp{}, api.Comp{Re: -1}},
		{api.Comp{Re: high, Im: low}, api.Comp{Re: 1, Im: -1}, api.Comp{Re: low, Im: high}, api.Comp{Re: high - 1, Im: low + 1}, api.Comp{Re: -1, Im: 1}},
		{api.Comp{Re: low, Im: low}, api.Comp{Re: low, Im: low}, api.Comp{}, api.Comp{}, api.Comp{}},
		{api.Comp{Re: high, Im: high}, api.Comp{Re: high, Im: high}, api.Comp{Re: -2, Im: -2}, api.Comp{}, api.Comp{Im: 2}},
		{api.Comp{Re: high, Im: high}, api.Comp{Re: high, Im: low}, api.Comp{Re: -2, Im: -1}, api.Comp{Im: -1}, api.Comp{Re: low + 1, Im: low + 1}},
		{api.Comp{Re: 4096}, api.Comp{Re: 2048}, api.Comp{Re: 6144}, api.Comp{Re: 2048}, api.Comp{Re: low}},
	} {
		if got := Add(c.a, c.b); got != c.sum {
			t.Errorf("Add(%v, %v): %v, want %v", c.a, c.b, got, c.sum)
		}
		if got := Sub(c.a, c.b); got != c.less {
			t.Errorf("Sub(%v, %v): %v, want %v", c.a, c.b, got, c.less)
		}
		if got := Mul(c.a, c.b); got != c.product {
			t.Errorf("Mul(%v, %v): %v, want %v", c.a, c.b, got, c.product)
		}
	}
}

func TestReckonedAsWholeNumbers(t *testing.T) { // P2.1
	for _, a := range inside() {
		for _, b := range inside() {
			if got, want := Add(a, b), rounded(api.Comp{Re: a.Re + b.Re, Im: a.Im + b.Im}); got != want {
				t.Fatalf("Add(%v, %v): %v, want %v", a, b, got, want)
			}
			if got, want := Sub(a, b), rounded(api.Comp{Re: a.Re - b.Re, Im: a.Im - b.Im}); got != want {
				t.Fatalf("Sub(%v, %v): %v, want %v", a, b, got, want)
			}
			if got, want := Mul(a, b), rounded(api.Comp{Re: a.Re*b.Re - a.Im*b.Im, Im: a.Re*b.Im + a.Im*b.Re}); got != want {
				t.Fatalf("Mul(%v, %v): %v, want %v", a, b, got, want)
			}
		}
	}
}

func TestSignsTurned(t *testing.T) { // P2.1
	for _, c := range []struct{ a, neg, turned api.Comp }{
		{api.Comp{}, api.Comp{}, api.Comp{}},
		{api.Comp{Re: 3, Im: 4}, api.Comp{Re: -3, Im: -4}, api.Comp{Re: 3, Im: -4}},
		{api.Comp{Re: -3, Im: -4}, api.Comp{Re: 3, Im: 4}, api.Comp{Re: -3, Im: 4}},
		{api.Comp{Re: low, Im: low}, api.Comp{Re: low, Im: low}, api.Comp{Re: low, Im: low}},
		{api.Comp{Re: high, Im: high}, api.Comp{Re: low + 1, Im: low + 1}, api.Comp{Re: high, Im: low + 1}},
		{api.Comp{Re: low + 1, Im: low + 1}, api.Comp{Re: high, Im: high}, api.Comp{Re: low + 1, Im: high}},
		{api.Comp{Re: 5}, api.Comp{Re: -5}, api.Comp{Re: 5}},
	} {
		if got := Neg(c.a); got != c.neg {
			t.Errorf("Neg(%v): %v, want %v", c.a, got, c.neg)
		}
		if got := Turn(c.a); got != c.turned {
			t.Errorf("Turn(%v): %v, want %v", c.a, got, c.turned)
		}
	}
	for _, a := range inside() {
		if got, want := Neg(a), rounded(api.Comp{Re: -a.Re, Im: -a.Im}); got != want {
			t.Errorf("Neg(%v): %v, want %v", a, got, want)
		}
		if got, want := Turn(a), rounded(api.Comp{Re: a.Re, Im: -a.Im}); got != want {
			t.Errorf("Turn(%v): %v, want %v", a, got, want)
		}
	}
}

func TestNorm(t *testing.T) { // P2.1
	for _, c := range []struct {
		a    api.Comp
		want int64
	}{
		{api.Comp{}, 0},
		{api.Comp{Re: 3, Im: 4}, 25},
		{api.Comp{Re: -3, Im: 4}, 25},
		{api.Comp{Im: -1}, 1},
		{api.Comp{Re: low, Im: low}, 1 << 47},
		{api.Comp{Re: low}, 1 << 46},
		{api.Comp{Im: low}, 1 << 46},
		{api.Comp{Re: high, Im: high}, 140737454800898},
		{api.Comp{Re: low, Im: high}, 140737471578113},
		{api.Comp{Re: 4096}, 1 << 24},
	} {
		if got := Norm(c.a); got != c.want {
			t.Errorf("Norm(%v): %d, want %d", c.a, got, c.want)
		}
	}
	for _, a := range inside() {
		if got, want := Norm(a), a.Re*a.Re+a.Im*a.Im; got != want {
			t.Errorf("Norm(%v): %d, want %d", a, got, want)
		}
	}
}

func TestNumbersThatMayNotBe(t *testing.T) { // P2.1, P0.1
	other := []api.Comp{{Re: 3, Im: -4}, {Re: high, Im: low}, {Re: high + 1, Im: low - 1}, {Re: math.MinInt64, Im: math.MaxInt64}}
	for _, a := range outside() {
		r := rounded(a)
		if Neg(a) != Neg(r) || Turn(a) != Turn(r) || Norm(a) != Norm(r) || Text(a) != Text(r) {
			t.Errorf("%v isn't taken as %v: %v, %v, %d, %s", a, r, Neg(a), Turn(a), Norm(a), Text(a))
		}
		for _, b := range other {
			s := rounded(b)
			if Add(a, b) != Add(r, s) || Sub(a, b) != Sub(r, s) || Mul(a, b) != Mul(r, s) {
				t.Errorf("%v, %v aren't taken as %v, %v", a, b, r, s)
			}
			if Add(b, a) != Add(s, r) || Sub(b, a) != Sub(s, r) || Mul(b, a) != Mul(s, r) {
				t.Errorf("%v, %v aren't taken as %v, %v", b, a, s, r)
			}
		}
	}
}

func TestText(t *testing.T) { // P2.1
	for _, c := range []struct {
		a    api.Comp
		want string
	}{
		{api.Comp{}, "0+0i"},
		{api.Comp{Re: 3, Im: 4}, "3+4i"},
		{api.Comp{Re: 3, Im: -4}, "3-4i"},
		{api.Comp{Re: -3, Im: 4}, "-3+4i"},
		{api.Comp{Re: -3, Im: -4}, "-3-4i"},
		{api.Comp{Re: -1}, "-1+0i"},
		{api.Comp{Im: 1}, "0+1i"},
		{api.Comp{Im: -1}, "0-1i"},
		{api.Comp{Re: low, Im: high}, "-8388608+8388607i"},
		{api.Comp{Re: high, Im: low}, "8388607-8388608i"},
		{api.Comp{Re: high + 1, Im: high + 1}, "-8388608-8388608i"},
		{api.Comp{Re: low - 1, Im: low - 1}, "8388607+8388607i"},
		{api.Comp{Re: math.MaxInt64, Im: math.MinInt64}, "-1+0i"},
	} {
		if got := Text(c.a); got != c.want {
			t.Errorf("Text(%v): %q, want %q", c.a, got, c.want)
		}
	}
}

func TestParse(t *testing.T) { // P2.1
	for _, c := range []struct {
		s    string
		want api.Comp
	}{
		{"0+0i", api.Comp{}},
		{"3-4i", api.Comp{Re: 3, Im: -4}},
		{"3+4i", api.Comp{Re: 3, Im: 4}},
		{"-3-4i", api.Comp{Re: -3, Im: -4}},
		{"-3+0i", api.Comp{Re: -3}},
		{"0-1i", api.Comp{Im: -1}},
		{"10+100i", api.Comp{Re: 10, Im: 100}},
		{"-8388608-8388608i", api.Comp{Re: low, Im: low}},
		{"8388607+8388607i", api.Comp{Re: high, Im: high}},
		{"-8388608+8388607i", api.Comp{Re: low, Im: high}},
	} {
		if got, err := Parse(c.s); got != c.want || err != api.OK {
			t.Errorf("Parse(%q): %v, %v, want %v", c.s, got, err, c.want)
		}
	}
}

func TestWrongForms(t *testing.T) { // P2.1
	for _, s := range []string{
		"", "i", "+", "-", "+i", "-i", "0", "3", "3i", "-3i", "3+4", "3-4", "+4i", "3+", "3-", "3+i", "3-i",
		"-+4i", "--4i", "++4i", "+-4i", "3++4i", "3+-4i", "3-+4i", "3--4i", "3+--4i", "3+4+5i", "3-4-5i", "3+4i+5i",
		"-0+0i", "0-0i", "3-0i", "3+-0i", "-0-0i", "-0+1i",
		"00+0i", "0+00i", "03+4i", "3+04i", "3-04i", "-03+4i", "007-1i",
		"+3+4i", "3 +4i", "3+ 4i", "3+4 i", " 3+4i", "3+4i ", "3+4i\n", "3+4ii", "3+4i0", "3+4i-", "3+4i\x00", "3+4I", "3+4j", "3i+4", "3i+4i",
		"3.0+4i", "3+4e1i", "0x3+4i", "3+1_0i", "\xff+4i", "3+\xffi", "3+\u0664i", "3+4\u0069\u0301", "3\u22124i",
	} {
		if got, err := Parse(s); got != (api.Comp{}) || err != api.ErrForm {
			t.Errorf("Parse(%q): %v, %v, want ErrForm", s, got, err)
		}
	}
}

func TestPartsTooFar(t *testing.T) { // P2.1
	long := strings.Repeat("9", 1000)
	far := []string{"8388608", "-8388609", "16777216", "-16777216", "16777217", "4294967296", "9223372036854775807", "-9223372036854775808", "9223372036854775808", "-9223372036854775809", "18446744073709551616", long, "-" + long}
	for _, s := range far {
		signed := s
		if s[0] != '-' {
			signed = "+" + s
		}
		for _, text := range []string{s + "+0i", s + "-1i", "0" + signed + "i", "-7" + signed + "i", s + signed + "i", s + "+8388607i", "-8388608" + signed + "i"} {
			if got, err := Parse(text); got != (api.Comp{}) || err != api.ErrOver {
				t.Errorf("Parse(%q): %v, %v, want ErrOver", text, got, err)
			}
		}
	}
}

func TestFormAheadOfOver(t *testing.T) { // P0.2
	long := strings.Repeat("9", 1000)
	for _, s := range []string{"8388608+0", "8388608-0i", "-0+8388608i", "8388608+00i", "00-8388609i", long + "+-1i", long + "+i", long + "i", "x+" + long + "i", "0+" + long, "0+" + long + "ix", long + "+0" + long + "i"} {
		if got, err := Parse(s); got != (api.Comp{}) || err != api.ErrForm {
			t.Errorf("Parse(%q): %v, %v, want ErrForm", s, got, err)
		}
	}
}

func TestThereAndBack(t *testing.T) { // P2.2
	for _, a := range inside() {
		if got, err := Parse(Text(a)); got != a || err != api.OK {
			t.Errorf("Parse(Text(%v)): %v, %v", a, got, err)
		}
	}
	for _, a := range outside() {
		if got, err := Parse(Text(a)); got != rounded(a) || err != api.OK {
			t.Errorf("Parse(Text(%v)): %v, %v", a, got, err)
		}
	}
}

func TestWhatIsReadHasThisText(t *testing.T) { // P2.2
	texts := []string{""}
	for from, step := 0, 0; step < 6; step++ {
		to := len(texts)
		for _, s := range texts[from:to] {
			for _, b := range "-+019ix" {
				texts = append(texts, s+string(b))
			}
		}
		from = to
	}
	read := 0
	for _, s := range texts {
		got, err := Parse(s)
		if err == api.OK && Text(got) != s || err != api.OK && got != (api.Comp{}) {
			t.Fatalf("Parse(%q): %v, %v, whose text is %q", s, got, err, Text(got))
		}
		if err == api.OK {
			read++
		}
	}
	if want := shortTexts(); read != want {
		t.Errorf("%d texts are read, want %d", read, want)
	}
}

// shortTexts counts the texts of numbers that have at most six bytes, all out of the signs, 0, 1, 9 and i.
func shortTexts() int {
	count := 0
	for re := -99; re <= 999; re++ {
		for im := -999; im <= 999; im++ {
			s := strconv.Itoa(re) + "+" + strconv.Itoa(im) + "i"
			if im < 0 {
				s = strconv.Itoa(re) + strconv.Itoa(im) + "i"
			}
			if len(s) <= 6 && !strings.ContainsAny(s, "2345678") {
				count++
			}
		}
	}
	return count
}

func TestAnyOrder(t *testing.T) { // P2.3
	for _, a := range few() {
		for _, b := range few() {
			if Add(a, b) != Add(b, a) || Mul(a, b) != Mul(b, a) {
				t.Fatalf("order of %v, %v", a, b)
			}
			for _, c := range few() {
				if Add(Add(a, b), c) != Add(a, Add(b, c)) || Mul(Mul(a, b), c) != Mul(a, Mul(b, c)) {
					t.Fatalf("order of %v, %v, %v", a, b, c)
				}
				if Mul(a, Add(b, c)) != Add(Mul(a, b), Mul(a, c)) || Mul(a, Sub(b, c)) != Sub(Mul(a, b), Mul(a, c)) {
					t.Fatalf("products of sums of %v, %v, %v", a, b, c)
				}
			}
		}
	}
}

func TestTimesItsTurnedOne(t *testing.T) { // P2.4
	for _, a := range append(inside(), outside()...) {
		got := Mul(a, Turn(a))
		if got.Im != 0 || got.Re != round(Norm(a)) || got != Of(Norm(a), 0) {
			t.Errorf("%v times its turned one: %v, Norm %d", a, got, Norm(a))
		}
	}
}
