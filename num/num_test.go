package num

import (
	"math"
	"strconv"
	"strings"
	"testing"

	"hindcast/api"
)

const (
	least = math.MinInt64
	most  = math.MaxInt64
)

// edges are the numbers next to 0, to both ends and to powers of 2 and 10, where something goes round or gets a digit more.
func edges() []int64 {
	l := []int64{0, 1, -1, 2, -2, 3, -3, 7, -7, 200, least, least + 1, least + 2, most, most - 1, most - 2}
	for shift := 3; shift < 63; shift += 4 {
		p := int64(1) << shift
		l = append(l, p-1, p, p+1, -p-1, -p, -p+1)
	}
	for p := int64(10); p <= most/10; p *= 10 {
		l = append(l, p-1, p, -p+1, -p)
	}
	return l
}

// mixed are numbers of all sizes, the same ones each time.
func mixed(count int) []int64 {
	var l []int64
	x := uint64(0x9e3779b97f4a7c15)
	for i := range count {
		x ^= x << 13
		x ^= x >> 7
		x ^= x << 17
		l = append(l, int64(x)>>(i%64))
	}
	return l
}

// sample is what properties of one and of two numbers are tried on.
func sample() []int64 { return append(edges(), mixed(300)...) }

// few is what properties of three numbers are tried on.
func few() []int64 {
	l := []int64{0, 1, -1, 2, -7, 10, 1 << 31, 1 << 32, 1 << 62, -1 << 62, least, least + 1, most, most - 1}
	return append(l, mixed(30)...)
}

// halves is a product out of pieces of 32 bits, none of which goes round unseen.
func halves(a, b int64) int64 {
	x, y := uint64(a), uint64(b)
	low := (x & math.MaxUint32) * (y & math.MaxUint32)
	cross := (x>>32)*(y&math.MaxUint32) + (x&math.MaxUint32)*(y>>32)
	return int64(low + cross<<32)
}

func TestSumsGoRound(t *testing.T) { // P1.1
	for _, c := range []struct{ a, b, sum, less int64 }{
		{0, 0, 0, 0},
		{2, 3, 5, -1},
		{-7, 4, -3, -11},
		{most, 1, least, most - 1},
		{least, 1, least + 1, most},
		{most, most, -2, 0},
		{least, least, 0, 0},
		{least, most, -1, 1},
		{most, least, -1, -1},
		{0, least, least, least},
		{most, -1, most - 1, least},
		{least, -1, most, least + 1},
	} {
		if got := Add(c.a, c.b); got != c.sum {
			t.Errorf("Add(%d, %d): %d, want %d", c.a, c.b, got, c.sum)
		}
		if got := Sub(c.a, c.b); got != c.less {
			t.Errorf("Sub(%d, %d): %d, want %d", c.a, c.b, got, c.less)
		}
	}
}

func TestProductsGoRound(t *testing.T) { // P1.1
	for _, c := range []struct{ a, b, want int64 }{
		{6, 7, 42},
		{-6, 7, -42},
		{-6, -7, 42},
		{0, least, 0},
		{1 << 62, 4, 0},
		{1 << 62, 2, least},
		{least, -1, least},
		{least, 2, 0},
		{least, 3, least},
		{least, least, 0},
		{most, most, 1},
		{most, 2, -2},
		{3037000500, 3037000500, -9223372036709301616},
	} {
		if got := Mul(c.a, c.b); got != c.want {
			t.Errorf("Mul(%d, %d): %d, want %d", c.a, c.b, got, c.want)
		}
	}
	for _, a := range sample() {
		for _, b := range sample() {
			if got := Mul(a, b); got != halves(a, b) {
				t.Fatalf("Mul(%d, %d): %d, want %d", a, b, got, halves(a, b))
			}
		}
	}
}

func TestNegGoesRound(t *testing.T) { // P1.1
	for _, c := range []struct{ a, want int64 }{{0, 0}, {5, -5}, {-5, 5}, {most, least + 1}, {least + 1, most}, {least, least}} {
		if got := Neg(c.a); got != c.want {
			t.Errorf("Neg(%d): %d, want %d", c.a, got, c.want)
		}
	}
	for _, a := range sample() {
		if Add(a, Neg(a)) != 0 || Sub(0, a) != Neg(a) {
			t.Errorf("Neg(%d): %d", a, Neg(a))
		}
	}
}

func TestQuotients(t *testing.T) { // P1.1
	for _, c := range []struct{ a, b, div, rem int64 }{
		{7, 2, 3, 1},
		{-7, 2, -3, -1},
		{7, -2, -3, 1},
		{-7, -2, 3, -1},
		{0, 5, 0, 0},
		{1, 5, 0, 1},
		{-1, 5, 0, -1},
		{least, -1, least, 0},
		{least, 1, least, 0},
		{least, least, 1, 0},
		{least, most, -1, -1},
		{most, least, 0, most},
		{most, -1, least + 1, 0},
		{least, 10, -922337203685477580, -8},
		{least, 2, -1 << 62, 0},
	} {
		div, ok := Div(c.a, c.b)
		if div != c.div || !ok {
			t.Errorf("Div(%d, %d): %d, %v, want %d", c.a, c.b, div, ok, c.div)
		}
		rem, ok := Rem(c.a, c.b)
		if rem != c.rem || !ok {
			t.Errorf("Rem(%d, %d): %d, %v, want %d", c.a, c.b, rem, ok, c.rem)
		}
	}
}

func TestDivisorNought(t *testing.T) { // P1.1, P0.1
	for _, a := range sample() {
		if div, ok := Div(a, 0); div != 0 || ok {
			t.Errorf("Div(%d, 0): %d, %v", a, div, ok)
		}
		if rem, ok := Rem(a, 0); rem != 0 || ok {
			t.Errorf("Rem(%d, 0): %d, %v", a, rem, ok)
		}
	}
}

func TestPutTogetherAgain(t *testing.T) { // P1.3
	for _, a := range sample() {
		for _, b := range sample() {
			if b == 0 {
				continue
			}
			div, ok1 := Div(a, b)
			rem, ok2 := Rem(a, b)
			if !ok1 || !ok2 || Add(Mul(div, b), rem) != a {
				t.Fatalf("%d by %d: %d, left %d", a, b, div, rem)
			}
			// Cut towards 0: what is left is nearer to 0 than the divisor, and never on the other side of 0 than a.
			if size(rem) >= size(b) || rem != 0 && (rem < 0) != (a < 0) {
				t.Fatalf("%d by %d: left %d", a, b, rem)
			}
		}
	}
}

func size(a int64) uint64 {
	if a < 0 {
		return -uint64(a)
	}
	return uint64(a)
}

func TestCompare(t *testing.T) { // P1.1
	for _, c := range []struct {
		a, b int64
		want int
	}{{0, 0, 0}, {1, 2, -1}, {2, 1, 1}, {-1, 1, -1}, {least, most, -1}, {most, least, 1}, {least, least, 0}, {most, most, 0}, {0, least, 1}, {least, 1, -1}, {most, -1, 1}} {
		if got := Compare(c.a, c.b); got != c.want {
			t.Errorf("Compare(%d, %d): %d, want %d", c.a, c.b, got, c.want)
		}
	}
	for _, a := range sample() {
		for _, b := range sample() {
			if got := Compare(a, b); got != -Compare(b, a) || (got < 0) != (a < b) || (got == 0) != (a == b) {
				t.Fatalf("Compare(%d, %d): %d", a, b, got)
			}
		}
	}
}

func TestRound(t *testing.T) { // P1.1
	for _, c := range []struct {
		a    int64
		bits int
		want int64
	}{
		{200, 8, -56},
		{127, 8, 127},
		{128, 8, -128},
		{-128, 8, -128},
		{-129, 8, 127},
		{256, 8, 0},
		{0, 1, 0},
		{1, 1, -1},
		{2, 1, 0},
		{-1, 1, -1},
		{least, 1, 0},
		{most, 1, -1},
		{least, 63, 0},
		{most, 63, -1},
		{1 << 62, 63, -1 << 62},
		{least, 64, least},
		{most, 64, most},
		{-1, 64, -1},
		{1 << 31, 32, -1 << 31},
		{1 << 23, 24, -1 << 23},
	} {
		if got, ok := Round(c.a, c.bits); got != c.want || !ok {
			t.Errorf("Round(%d, %d): %d, %v, want %d", c.a, c.bits, got, ok, c.want)
		}
	}
	for _, a := range sample() {
		for bits := 1; bits <= 64; bits++ {
			got, ok := Round(a, bits)
			low := int64(-1) << (bits - 1)
			apart := uint64(a) - uint64(got)
			if !ok || got < low || got > -(low+1) || apart<<(64-bits) != 0 {
				t.Fatalf("Round(%d, %d): %d, %v", a, bits, got, ok)
			}
		}
	}
}

func TestRoundOfNoBits(t *testing.T) { // P1.1, P0.1
	for _, bits := range []int{0, 65, -1, 66, 127, 128, -64, 256, 1 << 32, 1<<32 + 8, math.MinInt, math.MaxInt} {
		for _, a := range []int64{0, 1, -1, 200, least, most} {
			if got, ok := Round(a, bits); got != 0 || ok {
				t.Errorf("Round(%d, %d): %d, %v", a, bits, got, ok)
			}
		}
	}
}

func TestText(t *testing.T) { // P1.1
	for _, c := range []struct {
		a    int64
		want string
	}{{0, "0"}, {7, "7"}, {-7, "-7"}, {10, "10"}, {-10, "-10"}, {99, "99"}, {100, "100"}, {most, "9223372036854775807"}, {least, "-9223372036854775808"}, {least + 1, "-9223372036854775807"}} {
		if got := Text(c.a); got != c.want {
			t.Errorf("Text(%d): %q, want %q", c.a, got, c.want)
		}
	}
	for _, a := range sample() {
		if got := Text(a); got != strconv.FormatInt(a, 10) {
			t.Errorf("Text(%d): %q", a, got)
		}
	}
}

func TestParse(t *testing.T) { // P1.1
	long := strings.Repeat("9", 1000)
	for _, c := range []struct {
		s    string
		want int64
		err  api.Errno
	}{
		{"0", 0, api.OK},
		{"7", 7, api.OK},
		{"-7", -7, api.OK},
		{"1000000", 1000000, api.OK},
		{"9223372036854775807", most, api.OK},
		{"-9223372036854775808", least, api.OK},
		{"-9223372036854775807", least + 1, api.OK},
		{"", 0, api.ErrForm},
		{"-", 0, api.ErrForm},
		{"--", 0, api.ErrForm},
		{"--5", 0, api.ErrForm},
		{"-0", 0, api.ErrForm},
		{"-00", 0, api.ErrForm},
		{"00", 0, api.ErrForm},
		{"007", 0, api.ErrForm},
		{"-007", 0, api.ErrForm},
		{"0x1", 0, api.ErrForm},
		{"1_000", 0, api.ErrForm},
		{"+5", 0, api.ErrForm},
		{" 5", 0, api.ErrForm},
		{"5 ", 0, api.ErrForm},
		{"5\n", 0, api.ErrForm},
		{"5-", 0, api.ErrForm},
		{"5-3", 0, api.ErrForm},
		{"1.5", 0, api.ErrForm},
		{"1e3", 0, api.ErrForm},
		{"1/", 0, api.ErrForm},
		{"1:", 0, api.ErrForm},
		{"1\x00", 0, api.ErrForm},
		{"\xff", 0, api.ErrForm},
		{"\u0661", 0, api.ErrForm},
		{"9223372036854775808", 0, api.ErrOver},
		{"9223372036854775810", 0, api.ErrOver},
		{"-9223372036854775809", 0, api.ErrOver},
		{"-9223372036854775810", 0, api.ErrOver},
		{"18446744073709551615", 0, api.ErrOver},
		{"18446744073709551616", 0, api.ErrOver},
		{"18446744073709551617", 0, api.ErrOver},
		{"-18446744073709551616", 0, api.ErrOver},
		{"10000000000000000000", 0, api.ErrOver},
		{long, 0, api.ErrOver},
		{"-" + long, 0, api.ErrOver},
	} {
		if got, err := Parse(c.s); got != c.want || err != c.err {
			t.Errorf("Parse(%q): %d, %v, want %d, %v", c.s, got, err, c.want, c.err)
		}
	}
}

func TestFormAheadOfOver(t *testing.T) { // P0.2
	long := strings.Repeat("9", 1000)
	for _, s := range []string{long + "x", "0" + long, "-0" + long, long + "-", "--" + long, "9223372036854775808 "} {
		if got, err := Parse(s); got != 0 || err != api.ErrForm {
			t.Errorf("Parse(%q): %d, %v", s, got, err)
		}
	}
}

func TestParseOfAllBytes(t *testing.T) { // P1.1, P0.1
	for b := range 256 {
		digit := b >= '0' && b <= '9'
		one := string([]byte{byte(b)})
		if got, err := Parse(one); (err == api.OK) != digit || digit && got != int64(b-'0') || !digit && (err != api.ErrForm || got != 0) {
			t.Errorf("Parse(%q): %d, %v", one, got, err)
		}
		if got, err := Parse("1" + one + "2"); (err == api.OK) != digit || digit && got != int64(100+10*(b-'0')+2) || !digit && (err != api.ErrForm || got != 0) {
			t.Errorf("Parse(%q): %d, %v", "1"+one+"2", got, err)
		}
	}
}

func TestThereAndBack(t *testing.T) { // P1.2
	for _, a := range sample() {
		if got, err := Parse(Text(a)); got != a || err != api.OK {
			t.Errorf("Parse(Text(%d)): %d, %v", a, got, err)
		}
	}
}

func TestWhatIsReadHasThisText(t *testing.T) { // P1.2
	texts := []string{""}
	for from, step := 0, 0; step < 5; step++ {
		to := len(texts)
		for _, s := range texts[from:to] {
			for _, b := range "-+0129 a" {
				texts = append(texts, s+string(b))
			}
		}
		from = to
	}
	for _, s := range texts {
		checkRead(t, s)
	}
	for _, start := range []string{"92233720368547758", "-92233720368547758", "18446744073709551"} {
		for last := range 1000 {
			checkRead(t, start+strconv.Itoa(last))
		}
	}
}

// checkRead holds Parse against the library, which reads more forms: those are told by their being written otherwise.
func checkRead(t *testing.T, s string) {
	t.Helper()
	got, err := Parse(s)
	n, fail := strconv.ParseInt(s, 10, 64)
	if fail == nil && strconv.FormatInt(n, 10) == s {
		if got != n || err != api.OK || Text(got) != s {
			t.Errorf("Parse(%q): %d, %v", s, got, err)
		}
		return
	}
	if got != 0 || err == api.OK {
		t.Errorf("Parse(%q): %d, %v", s, got, err)
	}
}

func TestAnyOrder(t *testing.T) { // P1.4
	for _, a := range few() {
		for _, b := range few() {
			if Add(a, b) != Add(b, a) || Mul(a, b) != Mul(b, a) {
				t.Fatalf("order of %d, %d", a, b)
			}
			for _, c := range few() {
				if Add(Add(a, b), c) != Add(a, Add(b, c)) || Mul(Mul(a, b), c) != Mul(a, Mul(b, c)) {
					t.Fatalf("order of %d, %d, %d", a, b, c)
				}
				if Mul(a, Add(b, c)) != Add(Mul(a, b), Mul(a, c)) || Mul(a, Sub(b, c)) != Sub(Mul(a, b), Mul(a, c)) {
					t.Fatalf("products of sums of %d, %d, %d", a, b, c)
				}
			}
		}
	}
}
