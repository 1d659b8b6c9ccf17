package quote

import (
	"fmt"
	"regexp"
	"strings"
	"testing"

	"hindcast/api"
)

// pieces is how bytes may stand within a literal, said apart from the program.
const pieces = `(?:[ !#-\[\]-~]|\\["\\nt]|\\x[0-9a-fA-F][0-9a-fA-F])*`

func wholeLiteral() *regexp.Regexp { return regexp.MustCompile(`^"` + pieces + `"`) }

func begunLiteral() *regexp.Regexp {
	begun := regexp.MustCompile(`^(?:"` + pieces + `(?:\\(?:x[0-9a-fA-F]?)?)?)?`)
	begun.Longest()
	return begun
}

// literalOf is what one byte is in a literal, said apart from the program.
func literalOf(b byte) string {
	switch b {
	case 34:
		return "\\\""
	case 92:
		return "\\\\"
	case 10:
		return "\\n"
	case 9:
		return "\\t"
	}
	if b < 32 || b > 126 {
		return fmt.Sprintf("\\x%02x", b)
	}
	return string(rune(b))
}

// mixed are texts of all bytes, the same ones each time.
func mixed(count int) []string {
	var l []string
	x := uint64(0x9e3779b97f4a7c15)
	for i := range count {
		var text []byte
		for range i % 40 {
			x ^= x << 13
			x ^= x >> 7
			x ^= x << 17
			text = append(text, byte(x>>32))
		}
		l = append(l, string(text))
	}
	return l
}

// texts are ordinary ones, edges, and all texts of one and two bytes.
func texts() []string {
	l := []string{"", "a", "hello, world", "two\nlines\n", "\ttab", "\"", "\\", "\\\\", "\\\"", "\"\"", "\\n", "\\x41", "\n\t\"\\", "\x1f \x7e\x7f", "\x00\xff", "\u00e9", "\u65e5\u672c", "\u2028", "\U0001f600", "\r\n", "it's", "`", "\a\b\f\v", "a\x00b"}
	for a := range 256 {
		l = append(l, string([]byte{byte(a)}))
		for b := range 256 {
			l = append(l, string([]byte{byte(a), byte(b)}))
		}
	}
	return append(l, mixed(2000)...)
}

func TestQuote(t *testing.T) { // P3.1
	for _, c := range []struct{ s, want string }{
		{"", `""`},
		{"a", `"a"`},
		{"hello, world", `"hello, world"`},
		{"a\"\n", `"a\"\n"`},
		{"\"", `"\""`},
		{"\\", `"\\"`},
		{"\n", `"\n"`},
		{"\t", `"\t"`},
		{"\r", `"\x0d"`},
		{"'", `"'"`},
		{"`", "\"`\""},
		{"\\n", `"\\n"`},
		{"\x00", `"\x00"`},
		{"\x1f", `"\x1f"`},
		{" ", `" "`},
		{"~", `"~"`},
		{"\x7f", `"\x7f"`},
		{"\x80\xab\xff", `"\x80\xab\xff"`},
		{"\u00e9", `"\xc3\xa9"`},
		{"\U0001f600", `"\xf0\x9f\x98\x80"`},
		{"\x014", `"\x014"`},
		{"\a\b\v\f", `"\x07\x08\x0b\x0c"`},
	} {
		if got := Quote(c.s); got != c.want {
			t.Errorf("Quote(%q): %s, want %s", c.s, got, c.want)
		}
	}
}

func TestEachByte(t *testing.T) { // P3.1
	all, wantAll := "", ""
	for n := range 256 {
		s := string([]byte{byte(n)})
		inner := literalOf(byte(n))
		want := `"` + inner + `"`
		if got := Quote(s); got != want {
			t.Errorf("Quote of byte %d: %s, want %s", n, got, want)
		}
		if got := Size(s); got != len(want) {
			t.Errorf("Size of byte %d: %d, want %d", n, got, len(want))
		}
		if got, err := Unquote(want); got != s || err != api.OK {
			t.Errorf("Unquote(%s): %q, %v", want, got, err)
		}
		all, wantAll = all+s, wantAll+inner
	}
	wantAll = `"` + wantAll + `"`
	if got := Quote(all); got != wantAll {
		t.Errorf("Quote of all bytes: %s, want %s", got, wantAll)
	}
	if got, err := Unquote(wantAll); got != all || err != api.OK {
		t.Errorf("Unquote of all bytes: %q, %v", got, err)
	}
}

func TestSize(t *testing.T) { // P3.1
	for _, c := range []struct {
		s    string
		want int
	}{
		{"", 2}, {"a", 3}, {"abc", 5}, {"\n", 4}, {"\t", 4}, {"\"", 4}, {"\\", 4}, {"\x00", 6}, {"\x1f", 6}, {" ", 3}, {"~", 3}, {"\x7f", 6}, {"\xff", 6}, {"a\n\x01", 9},
		{strings.Repeat("a", 100000), 100002},
		{strings.Repeat("\xff", 100000), 400002},
	} {
		if got := Size(c.s); got != c.want {
			t.Errorf("Size of %d bytes, %.10q: %d, want %d", len(c.s), c.s, got, c.want)
		}
	}
	for _, s := range texts() {
		if got, want := Size(s), len(Quote(s)); got != want {
			t.Errorf("Size(%q): %d, but its literal has %d", s, got, want)
		}
	}
}

func TestUnquote(t *testing.T) { // P3.1
	for _, c := range []struct{ s, want string }{
		{`""`, ""},
		{`"a"`, "a"},
		{`" ~"`, " ~"},
		{`"\x41"`, "A"},
		{`"\x4a\x4A"`, "JJ"},
		{`"\xab\xAB\xaB\xAb"`, "\xab\xab\xab\xab"},
		{`"\x22\x5c\x5C\x0a\x09\x0A"`, "\"\\\\\n\t\n"},
		{`"\x20\x7e\x7f\x1f"`, " ~\x7f\x1f"},
		{`"\x4142"`, "A42"},
		{`"\n\t\"\\"`, "\n\t\"\\"},
		{`"\\n"`, "\\n"},
		{`"\\x41"`, "\\x41"},
		{`"\\\\\""`, "\\\\\""},
		{`"\x00\xff\xFF"`, "\x00\xff\xff"},
		{`"x41n't"`, "x41n't"},
		{`"/* # // */"`, "/* # // */"},
	} {
		if got, err := Unquote(c.s); got != c.want || err != api.OK {
			t.Errorf("Unquote(%s): %q, %v, want %q", c.s, got, err, c.want)
		}
	}
}

func TestDigitsOfAnyByte(t *testing.T) { // P3.1
	for n := range 256 {
		want := string([]byte{byte(n)})
		small, great := fmt.Sprintf("%02x", n), fmt.Sprintf("%02X", n)
		for _, two := range []string{small, great, small[:1] + great[1:], great[:1] + small[1:]} {
			s := `"\x` + two + `"`
			if got, err := Unquote(s); got != want || err != api.OK {
				t.Errorf("Unquote(%s): %q, %v", s, got, err)
			}
			if got, is := End(s); got != 6 || !is {
				t.Errorf("End(%s): %d, %t", s, got, is)
			}
		}
	}
}

// wrong are texts that don't begin with a literal, each with how many of its bytes may begin one.
func wrong() map[string]int {
	return map[string]int{
		"":  0,
		`"`: 1,

		// No quote at the beginning.
		`a`: 0, `a"`: 0, `abc"`: 0, ` ""`: 0, `'a'`: 0, "`a`": 0, `\"a"`: 0, `\`: 0, "\n\"\"": 0, "\x00": 0, "\xff\"\"": 0, "\u201ca\u201d": 0,

		// No quote at the end.
		`"a`: 2, `"abc`: 4, `"ab'`: 4, `"\"`: 3, `"a\"`: 4, `"\\\"`: 5, `"\n`: 3, `"\t`: 3, `"\x41`: 5, `"\x22`: 5, `"\\`: 3, `" `: 2, `"~`: 2,

		// Bytes within that may not be.
		"\"\n\"": 1, "\"\t\"": 1, "\"\x00\"": 1, "\"\x1f\"": 1, "\"\x7f\"": 1, "\"\x80\"": 1, "\"\xff\"": 1, "\"ab\r\"": 3, "\"a\u00e9\"": 2, "\"\\n\n\"": 3, "\"a\x7f": 2, "\"\\\n\"": 2, "\"\\\x00\"": 2, "\"\\\xff": 2,

		// A backslash at the end.
		`"\`: 2, `"a\`: 3, `"\\\`: 4, `"\n\`: 4,

		// Letters that stand for nothing.
		`"\a"`: 2, `"\b"`: 2, `"\r"`: 2, `"\0"`: 2, `"\N"`: 2, `"\T"`: 2, `"\X41"`: 2, `"\u0041"`: 2, `"\'"`: 2, `"\ "`: 2, `"\/"`: 2, `"ab\qcd"`: 4, `"\m"`: 2, `"\o"`: 2, `"\s"`: 2, `"\y"`: 2,

		// Digits that are none, or too few.
		`"\x`: 3, `"\x"`: 3, `"\x4`: 4, `"\x4"`: 4, `"\xg0"`: 3, `"\x0g"`: 4, `"\xG0"`: 3, `"\x0G"`: 4, `"\x/0"`: 3, `"\x0:"`: 4, "\"\\x`0\"": 3, `"\x0@"`: 4, `"\x 1"`: 3, `"\x1 "`: 4, `"\x-1"`: 3, `"\x+1"`: 3, `"\x\x41"`: 3, `"\x4\x41"`: 4, "\"\\x\n\"": 3, "\"\\x4\xff\"": 4,
	}
}

func TestWrongLiterals(t *testing.T) { // P3.1
	for s, want := range wrong() {
		if got, err := Unquote(s); got != "" || err != api.ErrForm {
			t.Errorf("Unquote(%q): %q, %v, want ErrForm", s, got, err)
		}
		if got, is := End(s); got != want || is {
			t.Errorf("End(%q): %d, %t, want %d", s, got, is, want)
		}
	}
}

func TestWrongLiteralsWithMoreBehind(t *testing.T) { // P3.1
	for s, want := range wrong() {
		if want == len(s) {
			continue
		}
		// Behind the first byte that may not be nothing counts.
		for _, more := range []string{`"`, `""`, "a", `\`, "\n", "\x00", `x41"`, "\xff"} {
			if got, is := End(s + more); got != want || is {
				t.Errorf("End(%q): %d, %t, want %d", s+more, got, is, want)
			}
			if got, err := Unquote(s + more); got != "" || err != api.ErrForm {
				t.Errorf("Unquote(%q): %q, %v, want ErrForm", s+more, got, err)
			}
		}
	}
}

func TestBegunLiterals(t *testing.T) { // P3.1
	for _, c := range []struct {
		s    string
		want int
		is   bool
	}{
		{`"a` + `"`, 3, true},
		{`"a` + "\n" + `"`, 2, false},
		{`"\` + `"`, 3, false},
		{`"\` + `""`, 4, true},
		{`"\` + `n"`, 4, true},
		{`"\` + `x"`, 3, false},
		{`"\x` + `41"`, 6, true},
		{`"\x` + `4"`, 4, false},
		{`"\x4` + `1"`, 6, true},
		{`"\x4` + `1`, 5, false},
		{`"\x41` + "\x80", 5, false},
		{`"` + `"`, 2, true},
		{`"` + ` `, 2, false},
	} {
		if got, is := End(c.s); got != c.want || is != c.is {
			t.Errorf("End(%q): %d, %t, want %d, %t", c.s, got, is, c.want, c.is)
		}
	}
}

func TestBytesBehind(t *testing.T) { // P3.1
	for _, s := range []string{`""`, `"a"`, `"ab"`, `"\""`, `"\\"`, `"\n"`, `"\x41"`, `"\\\""`, `" "`} {
		if got, is := End(s); got != len(s) || !is {
			t.Errorf("End(%s): %d, %t, want %d", s, got, is, len(s))
		}
		for _, more := range []string{`"`, `""`, "a", "cd", " ", "\n", `\`, `\n"`, "\x00", "\x7f", "\xff", s} {
			if got, is := End(s + more); got != len(s) || !is {
				t.Errorf("End(%q): %d, %t, want %d", s+more, got, is, len(s))
			}
			if got, err := Unquote(s + more); got != "" || err != api.ErrForm {
				t.Errorf("Unquote(%q): %q, %v, want ErrForm", s+more, got, err)
			}
		}
	}
}

func TestBytesWithin(t *testing.T) { // P3.1
	for n := range 256 {
		s := "\"" + string([]byte{byte(n)}) + "\""
		stands := n >= 32 && n <= 126 && n != '"' && n != '\\'
		got, err := Unquote(s)
		if stands && (got != s[1:2] || err != api.OK) || !stands && (got != "" || err != api.ErrForm) {
			t.Errorf("Unquote(%q): %q, %v", s, got, err)
		}
	}
}

func TestShortTexts(t *testing.T) { // P3.1, P0.1
	whole, begun := wholeLiteral(), begunLiteral()
	all := []string{""}
	for from, step := 0, 0; step < 6; step++ {
		to := len(all)
		for _, s := range all[from:to] {
			for _, b := range []string{`"`, `\`, "x", "n", "4", "F", "g", "\x1f", "\x80"} {
				all = append(all, s+b)
			}
		}
		from = to
	}
	all = append(all, texts()...)
	for _, s := range mixed(500) {
		all = append(all, Quote(s)+s, Quote(s)[:1+len(s)]+s, "\""+s, s+"\"")
	}
	for _, s := range all {
		want, is := len(begun.FindString(s)), false
		if literal := whole.FindString(s); literal != "" {
			want, is = len(literal), true
		}
		if got, ok := End(s); got != want || ok != is {
			t.Fatalf("End(%q): %d, %t, want %d, %t", s, got, ok, want, is)
		}
		got, err := Unquote(s)
		if (err == api.OK) != (is && want == len(s)) || err != api.OK && (err != api.ErrForm || got != "") {
			t.Fatalf("Unquote(%q): %q, %v", s, got, err)
		}
	}
}

func TestThereAndBack(t *testing.T) { // P3.2
	for _, s := range append(texts(), strings.Repeat("\xff\"\\n\n", 50000)) {
		if got, err := Unquote(Quote(s)); got != s || err != api.OK {
			t.Errorf("Unquote(Quote(%.20q)): %.20q, %v", s, got, err)
		}
	}
}

func TestLiteralsOfLiterals(t *testing.T) { // P3.2
	for _, s := range []string{"", "\"", "\\x4", "a\nb", "\x00\xff"} {
		text := s
		for range 6 {
			text = Quote(text)
		}
		for range 6 {
			inner, err := Unquote(text)
			if err != api.OK {
				t.Fatalf("Unquote(%q): %v", text, err)
			}
			text = inner
		}
		if text != s {
			t.Errorf("%q came back as %q", s, text)
		}
	}
}

func TestNoBeginningIsALiteral(t *testing.T) { // P3.3
	literals := []string{`""`, `"a"`, `"\""`, `"\\"`, `"\\\""`, `"\x41"`, `"\x22\x5C"`, `"a\"b\"c"`, `"\"\"\""`}
	for _, s := range mixed(400) {
		literals = append(literals, Quote(s))
	}
	for _, s := range literals {
		for end := range len(s) {
			if got, err := Unquote(s[:end]); got != "" || err != api.ErrForm {
				t.Errorf("Unquote(%q): %q, %v, a beginning of %q", s[:end], got, err, s)
			}
			if got, is := End(s[:end]); got != end || is {
				t.Errorf("End(%q): %d, %t, a beginning of %q", s[:end], got, is, s)
			}
		}
		if got, is := End(s); got != len(s) || !is {
			t.Errorf("End(%q): %d, %t", s, got, is)
		}
	}
}
