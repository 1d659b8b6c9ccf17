package lex

import (
	"fmt"
	"regexp"
	"slices"
	"strconv"
	"strings"
	"testing"

	"hindcast/api"
	"hindcast/quote"
)

const nameBytes = "abcdefghijklmnopqrstuvwxyzABCDEFGHIJKLMNOPQRSTUVWXYZ0123456789_"

func words() []string {
	return []string{"rec", "fn", "var", "if", "else", "while", "return", "print", "true", "false", "nil", "make", "int", "bool", "str", "comp"}
}

func signs() []string {
	return []string{"&&", "||", "==", "!=", "<=", ">=", "+", "-", "*", "/", "%", "<", ">", "!", "=", "(", ")", "{", "}", "[", "]", ",", ";", ":", "."}
}

func name(line, col int, text string) api.Token {
	return api.Token{Kind: api.TokName, Line: line, Col: col, Text: text}
}

func great(line, col int, text string) api.Token {
	return api.Token{Kind: api.TokBig, Line: line, Col: col, Text: text}
}

func word(line, col int, text string) api.Token {
	return api.Token{Kind: api.TokWord, Line: line, Col: col, Text: text}
}

func sign(line, col int, text string) api.Token {
	return api.Token{Kind: api.TokSign, Line: line, Col: col, Text: text}
}

func whole(line, col int, number int64) api.Token {
	return api.Token{Kind: api.TokInt, Line: line, Col: col, Num: number}
}

func complexOne(line, col int, number int64) api.Token {
	return api.Token{Kind: api.TokComp, Line: line, Col: col, Num: number}
}

func literal(line, col int, text string) api.Token {
	return api.Token{Kind: api.TokStr, Line: line, Col: col, Text: text}
}

func end(line, col int) api.Token { return api.Token{Kind: api.TokEnd, Line: line, Col: col} }

// shown is a list cut short: a text may have 65536 tokens, or a token as many bytes.
func shown(l []api.Token) string { return fmt.Sprintf("%.300q", fmt.Sprint(l)) }

// wantTokens holds whole tokens against each other: so fields that aren't named must be zero.
func wantTokens(t *testing.T, s string, want ...api.Token) {
	t.Helper()
	if got, f := Tokens(s); f != (api.Fault{}) || !slices.Equal(got, want) {
		t.Errorf("Tokens(%.60q): %s, %v, want %s", s, shown(got), f, shown(want))
	}
}

func wantFault(t *testing.T, s string, code api.Errno, line, col int) {
	t.Helper()
	want := api.Fault{Code: code, Line: line, Col: col}
	if got, f := Tokens(s); len(got) != 0 || f != want {
		t.Errorf("Tokens(%.60q): %s, %v, want %v", s, shown(got), f, want)
	}
}

// said is what Tokens is to answer, said apart from the program.
type said struct{ gap, small, great, number, behind, literal, sign *regexp.Regexp }

func newSaid() said {
	return said{
		gap:     regexp.MustCompile(`^(?:[ \t\r\n]|#[^\n]*)*`),
		small:   regexp.MustCompile(`^[a-z_][a-zA-Z0-9_]*`),
		great:   regexp.MustCompile(`^[A-Z][a-zA-Z0-9_]*`),
		number:  regexp.MustCompile(`^[0-9]+i?`),
		behind:  regexp.MustCompile(`^[0-9]+(?:i[a-zA-Z0-9_]|[a-hj-zA-Z_])`),
		literal: regexp.MustCompile(`^"(?:[ !#-\[\]-~]|\\["\\nt]|\\x[0-9a-fA-F][0-9a-fA-F])*"`),
		sign:    regexp.MustCompile(`^(?:&&|\|\||==|!=|<=|>=|[-+*/%<>!=(){}\[\],;:.])`),
	}
}

func (d said) token(s string) (api.Token, int, api.Errno) {
	if found := d.small.FindString(s); found != "" {
		if slices.Contains(words(), found) {
			return word(0, 0, found), len(found), api.OK
		}
		return name(0, 0, found), len(found), api.OK
	}
	if found := d.great.FindString(s); found != "" {
		return great(0, 0, found), len(found), api.OK
	}
	if found := d.number.FindString(s); found != "" {
		return d.numberToken(s, found)
	}
	if found := d.literal.FindString(s); found != "" {
		text, err := strconv.Unquote(found)
		if err != nil {
			panic(err)
		}
		return literal(0, 0, text), len(found), api.OK
	}
	if found := d.sign.FindString(s); found != "" {
		return sign(0, 0, found), len(found), api.OK
	}
	return api.Token{}, 0, api.ErrToken
}

func (d said) numberToken(s, found string) (api.Token, int, api.Errno) {
	if d.behind.MatchString(s) {
		return api.Token{}, 0, api.ErrToken
	}
	digits, isComplex := strings.CutSuffix(found, "i")
	number, err := strconv.ParseUint(digits, 10, 63)
	if err != nil || isComplex && number > 8388607 {
		return api.Token{}, 0, api.ErrOver
	}
	if isComplex {
		return complexOne(0, 0, int64(number)), len(found), api.OK
	}
	return whole(0, 0, int64(number)), len(found), api.OK
}

func placeOf(s string, at int) (line, col int) {
	return 1 + strings.Count(s[:at], "\n"), at - strings.LastIndexByte(s[:at], '\n')
}

func (d said) tokens(s string) ([]api.Token, api.Fault) {
	var l []api.Token
	for at := 0; ; {
		at += len(d.gap.FindString(s[at:]))
		line, col := placeOf(s, at)
		if at == len(s) {
			return append(l, end(line, col)), api.Fault{}
		}
		token, size, err := d.token(s[at:])
		if err != api.OK {
			return nil, api.Fault{Code: err, Line: line, Col: col}
		}
		token.Line, token.Col = line, col
		l = append(l, token)
		at += size
	}
}

// samples are texts of telling pieces, the same ones each time.
func samples(count int) []string {
	pieces := append(append(words(), signs()...), "a", "_", "B", "x1", "Big_2", "iff", "i", "0", "7", "08", "12i", "8388607i", "8388608i", "9223372036854775807", "9223372036854775808", "0i", `""`, `"a#b"`, `"\n"`, `"`, `\`, " ", " ", " ", "\t", "\r", "\n", "\n", "\r\n", "# note\n", "#\"&\xff\n", "#", "&", "|", "$", "\x00", "\x80", "~")
	var l []string
	x := uint64(0x2545f4914f6cdd1d)
	for i := range count {
		var text strings.Builder
		for range i % 20 {
			x ^= x << 13
			x ^= x >> 7
			x ^= x << 17
			text.WriteString(pieces[(x>>20)%uint64(len(pieces))])
		}
		l = append(l, text.String())
	}
	return l
}

func TestExamples(t *testing.T) { // P4.1
	wantTokens(t, "x1 <= 3i # note", name(1, 1, "x1"), sign(1, 4, "<="), complexOne(1, 7, 3), end(1, 16))
	wantFault(t, "12a", api.ErrToken, 1, 1)
	wantTokens(t, "fn main() {\n\tprint Pair.a + \"x\\\"y\"; # done\n}\n",
		word(1, 1, "fn"), name(1, 4, "main"), sign(1, 8, "("), sign(1, 9, ")"), sign(1, 11, "{"),
		word(2, 2, "print"), great(2, 8, "Pair"), sign(2, 12, "."), name(2, 13, "a"), sign(2, 15, "+"), literal(2, 17, "x\"y"), sign(2, 23, ";"),
		sign(3, 1, "}"), end(4, 1))
}

func TestEmptyText(t *testing.T) { // P4.1
	wantTokens(t, "", end(1, 1))
}

func TestWords(t *testing.T) { // P4.1
	for _, s := range words() {
		if !Word(s) {
			t.Errorf("Word(%q): false", s)
		}
		wantTokens(t, s, word(1, 1, s), end(1, 1+len(s)))
		wantTokens(t, " "+s+";", word(1, 2, s), sign(1, 2+len(s), ";"), end(1, 3+len(s)))
	}
}

// nearWords are texts that are words but for one byte.
func nearWords() []string {
	var l []string
	for _, s := range words() {
		for at := range len(s) {
			l = append(l, s[:at]+s[at+1:])
			for _, b := range []byte(nameBytes) {
				l = append(l, s[:at]+string(b)+s[at+1:], s[:at]+string(b)+s[at:])
			}
		}
		for _, b := range []byte(nameBytes) {
			l = append(l, s+string(b))
		}
		l = append(l, s+s, s+"_"+s, strings.ToUpper(s))
	}
	return l
}

func TestNamesNearWords(t *testing.T) { // P4.1
	for _, s := range nearWords() {
		if slices.Contains(words(), s) {
			continue
		}
		if Word(s) {
			t.Errorf("Word(%q): true", s)
		}
		switch b := s[0]; {
		case b >= 'A' && b <= 'Z':
			wantTokens(t, s, great(1, 1, s), end(1, 1+len(s)))
		case b < '0' || b > '9':
			wantTokens(t, s, name(1, 1, s), end(1, 1+len(s)))
		}
	}
}

func TestNoWords(t *testing.T) { // P4.1
	for _, s := range []string{"", " ", "main", "FN", "fn ", " fn", "fn\n", "fn\x00", "fn if", "for", "len", "i", "none", "null", "list", "string", "complex", "+", "==", "1", "\"fn\"", "#", "\xff", strings.Repeat("fn", 100000)} {
		if Word(s) {
			t.Errorf("Word(%.20q): true", s)
		}
	}
}

func TestNames(t *testing.T) { // P4.1
	for _, s := range []string{"a", "z", "_", "__", "_1", "_a", "_A", "x1", "a_b", "aBC", "az09AZ_", "i", "i1", "x41", "camelCase9_", "a0", "z9"} {
		wantTokens(t, s, name(1, 1, s), end(1, 1+len(s)))
	}
	for _, s := range []string{"A", "Z", "Big", "B1", "B_", "A_1", "ALL", "Fn", "Int", "I", "Az09AZ_", "A0", "Z9"} {
		wantTokens(t, s, great(1, 1, s), end(1, 1+len(s)))
	}
	wantTokens(t, "_A A_ a", name(1, 1, "_A"), great(1, 4, "A_"), name(1, 7, "a"), end(1, 8))
	wantTokens(t, "a.b", name(1, 1, "a"), sign(1, 2, "."), name(1, 3, "b"), end(1, 4))
	wantTokens(t, "-a-B", sign(1, 1, "-"), name(1, 2, "a"), sign(1, 3, "-"), great(1, 4, "B"), end(1, 5))
}

func TestBytesWithinNames(t *testing.T) { // P4.1
	d := newSaid()
	for n := range 256 {
		inName := strings.IndexByte(nameBytes, byte(n)) >= 0
		for _, first := range []string{"a", "_", "A"} {
			s := first + string([]byte{byte(n)}) + "b"
			if inName {
				token, _, _ := d.token(s)
				token.Line, token.Col = 1, 1
				wantTokens(t, s, token, end(1, 4))
				continue
			}
			if l, f := Tokens(s); f.Code == api.OK && l[0].Text != first {
				t.Errorf("Tokens(%q): %v", s, l)
			}
		}
	}
}

func TestSigns(t *testing.T) { // P4.1
	for _, s := range signs() {
		wantTokens(t, s, sign(1, 1, s), end(1, 1+len(s)))
		wantTokens(t, "a"+s+"B", name(1, 1, "a"), sign(1, 2, s), great(1, 2+len(s), "B"), end(1, 3+len(s)))
		wantTokens(t, "1"+s+"2i", whole(1, 1, 1), sign(1, 2, s), complexOne(1, 2+len(s), 2), end(1, 4+len(s)))
	}
}

func TestSignsNextToEachOther(t *testing.T) { // P4.1
	for _, a := range signs() {
		for _, b := range signs() {
			s := a + b
			switch {
			case slices.Contains(signs(), s):
				wantTokens(t, s, sign(1, 1, s), end(1, 3))
			case len(a) == 1 && strings.Contains("<>!=", a) && b == "==":
				wantTokens(t, s, sign(1, 1, a+"="), sign(1, 3, "="), end(1, 4))
			default:
				wantTokens(t, s, sign(1, 1, a), sign(1, 1+len(a), b), end(1, 1+len(s)))
			}
			wantTokens(t, a+" "+b, sign(1, 1, a), sign(1, 2+len(a), b), end(1, 2+len(s)))
		}
	}
}

func TestLongestSigns(t *testing.T) { // P4.1
	wantTokens(t, "===", sign(1, 1, "=="), sign(1, 3, "="), end(1, 4))
	wantTokens(t, "====", sign(1, 1, "=="), sign(1, 3, "=="), end(1, 5))
	wantTokens(t, "!==", sign(1, 1, "!="), sign(1, 3, "="), end(1, 4))
	wantTokens(t, "!!=", sign(1, 1, "!"), sign(1, 2, "!="), end(1, 4))
	wantTokens(t, "<<=", sign(1, 1, "<"), sign(1, 2, "<="), end(1, 4))
	wantTokens(t, "=<=>", sign(1, 1, "="), sign(1, 2, "<="), sign(1, 4, ">"), end(1, 5))
	wantTokens(t, "=!", sign(1, 1, "="), sign(1, 2, "!"), end(1, 3))
	wantTokens(t, "= =", sign(1, 1, "="), sign(1, 3, "="), end(1, 4))
	wantTokens(t, "--", sign(1, 1, "-"), sign(1, 2, "-"), end(1, 3))
	wantTokens(t, "+=", sign(1, 1, "+"), sign(1, 2, "="), end(1, 3))
	wantTokens(t, "&&&&", sign(1, 1, "&&"), sign(1, 3, "&&"), end(1, 5))
	wantTokens(t, "...", sign(1, 1, "."), sign(1, 2, "."), sign(1, 3, "."), end(1, 4))
}

func TestLoneSigns(t *testing.T) { // P4.1
	for _, b := range []string{"&", "|"} {
		wantFault(t, b, api.ErrToken, 1, 1)
		wantFault(t, "a "+b, api.ErrToken, 1, 3)
		wantFault(t, b+" "+b, api.ErrToken, 1, 1)
		wantFault(t, b+"\n"+b, api.ErrToken, 1, 1)
		wantFault(t, b+b+b, api.ErrToken, 1, 3)
		wantFault(t, b+"=", api.ErrToken, 1, 1)
		wantFault(t, "="+b, api.ErrToken, 1, 2)
		wantFault(t, b+"a", api.ErrToken, 1, 1)
	}
	wantFault(t, "&|", api.ErrToken, 1, 1)
	wantFault(t, "|&", api.ErrToken, 1, 1)
	wantFault(t, "&&|", api.ErrToken, 1, 3)
	wantFault(t, "||&&|", api.ErrToken, 1, 5)
}

func TestWholeNumbers(t *testing.T) { // P4.1
	for s, want := range map[string]int64{
		"0": 0, "1": 1, "9": 9, "10": 10, "1234567890": 1234567890,
		"8388607": 8388607, "8388608": 8388608, "4294967296": 4294967296,
		"9223372036854775806": 1<<63 - 2, "9223372036854775807": 1<<63 - 1,
		"00": 0, "000": 0, "01": 1, "007": 7, "0100": 100, "09": 9,
		"0009223372036854775807":             1<<63 - 1,
		strings.Repeat("0", 1000):            0,
		strings.Repeat("0", 1000) + "12":     12,
		strings.Repeat("0", api.MaxText):     0,
		strings.Repeat("0", 65535) + "5":     5,
		strings.Repeat("0", 30) + "90000000": 90000000,
	} {
		wantTokens(t, s, whole(1, 1, want), end(1, 1+len(s)))
	}
	wantTokens(t, "-1", sign(1, 1, "-"), whole(1, 2, 1), end(1, 3))
	wantTokens(t, "1.5", whole(1, 1, 1), sign(1, 2, "."), whole(1, 3, 5), end(1, 4))
	wantTokens(t, "3 i", whole(1, 1, 3), name(1, 3, "i"), end(1, 4))
	wantTokens(t, "3\ni", whole(1, 1, 3), name(2, 1, "i"), end(2, 2))
	wantTokens(t, "1\"2\"3", whole(1, 1, 1), literal(1, 2, "2"), whole(1, 5, 3), end(1, 6))
	wantTokens(t, "1#i", whole(1, 1, 1), end(1, 4))
}

func TestComplexNumbers(t *testing.T) { // P4.1
	for s, want := range map[string]int64{
		"0i": 0, "1i": 1, "3i": 3, "10i": 10, "8388606i": 8388606, "8388607i": api.MaxGauss - 1,
		"00i": 0, "01i": 1, "007i": 7, "0008388607i": 8388607,
		strings.Repeat("0", 1000) + "i":   0,
		strings.Repeat("0", 1000) + "12i": 12,
	} {
		wantTokens(t, s, complexOne(1, 1, want), end(1, 1+len(s)))
	}
	wantTokens(t, "1i+2i", complexOne(1, 1, 1), sign(1, 3, "+"), complexOne(1, 4, 2), end(1, 6))
	wantTokens(t, "1i i", complexOne(1, 1, 1), name(1, 4, "i"), end(1, 5))
	wantTokens(t, "1i#i", complexOne(1, 1, 1), end(1, 5))
	wantTokens(t, "1i\"\"", complexOne(1, 1, 1), literal(1, 3, ""), end(1, 5))
}

func overNumbers() []string {
	return []string{
		"9223372036854775808", "9223372036854775809", "9223372036854775810", "9223372036854775817", "9999999999999999999", "10000000000000000000",
		"18446744073709551615", "18446744073709551616", "18446744073709551617", "36893488147419103232", "0009223372036854775808",
		"8388608i", "8388609i", "8388610i", "9000000i", "10000000i", "16777216i", "4294967296i", "4294967297i",
		"9223372036854775807i", "9223372036854775808i", "18446744073709551616i", "18446744073709551617i", "0008388608i",
		strings.Repeat("9", 1000), strings.Repeat("9", 1000) + "i", "1" + strings.Repeat("0", 1000), "1" + strings.Repeat("0", 1000) + "i",
	}
}

func TestNumbersAboveTheBound(t *testing.T) { // P4.1
	for _, s := range overNumbers() {
		wantFault(t, s, api.ErrOver, 1, 1)
		wantFault(t, "x = "+s+";", api.ErrOver, 1, 5)
		wantFault(t, "x\n"+s+" i", api.ErrOver, 2, 1)
		wantFault(t, "-"+s, api.ErrOver, 1, 2)
		for _, behind := range []string{" ", "\n", "+", ".", "\"", "#a", "&", "$", "\x00", "\xff", "\u00e9"} {
			wantFault(t, s+behind, api.ErrOver, 1, 1)
		}
	}
	wantFault(t, strings.Repeat("9", api.MaxText), api.ErrOver, 1, 1)
	wantFault(t, strings.Repeat("9", 65535)+"i", api.ErrOver, 1, 1)
}

func TestNumbersWithMoreBehind(t *testing.T) { // P4.1
	for _, b := range []byte(nameBytes) {
		more := string(b)
		if b != 'i' && (b < '0' || b > '9') {
			wantFault(t, "0"+more, api.ErrToken, 1, 1)
			wantFault(t, "12"+more, api.ErrToken, 1, 1)
			wantFault(t, "a + 12"+more+" b", api.ErrToken, 1, 5)
			wantFault(t, "9223372036854775808"+more, api.ErrToken, 1, 1)
		}
		wantFault(t, "0i"+more, api.ErrToken, 1, 1)
		wantFault(t, "12i"+more, api.ErrToken, 1, 1)
		wantFault(t, "8388607i"+more, api.ErrToken, 1, 1)
		wantFault(t, "8388608i"+more, api.ErrToken, 1, 1)
		wantFault(t, "9223372036854775808i"+more, api.ErrToken, 1, 1)
	}
	for _, s := range []string{"3if", "3ii", "3i3i", "3I", "1_000", "0x10", "1e5", "1else", "12fn", "7_", "8388608if", "99999999999999999999_"} {
		wantFault(t, s, api.ErrToken, 1, 1)
	}
}

func TestBytesBehindNumbers(t *testing.T) { // P4.1
	for n := range 256 {
		b := string([]byte{byte(n)})
		if strings.Contains(nameBytes, b) {
			continue
		}
		for _, s := range []string{"5", "5i"} {
			// The number itself is right: the fault, if any, is that of what stands behind.
			l, f := Tokens(s + b + "\n")
			if f.Code == api.OK && (l[0].Num != 5 || l[0].Text != "") || f.Code != api.OK && f != (api.Fault{Code: api.ErrToken, Line: 1, Col: 1 + len(s)}) {
				t.Errorf("Tokens(%q): %v, %v", s+b, l, f)
			}
		}
	}
}

func TestLiterals(t *testing.T) { // P4.1
	for s, want := range map[string]string{
		`""`: "", `"a"`: "a", `" ~"`: " ~", `"\n\t\"\\"`: "\n\t\"\\", `"\x41\x4a\x4A"`: "AJJ", `"\x00\xff"`: "\x00\xff",
		`"# no note"`: "# no note", `"fn"`: "fn", `"12"`: "12", `"\\"`: "\\", `"\""`: "\"", `"'"`: "'", `"\x0a"`: "\n",
	} {
		wantTokens(t, s, literal(1, 1, want), end(1, 1+len(s)))
		wantTokens(t, s+"a", literal(1, 1, want), name(1, 1+len(s), "a"), end(1, 2+len(s)))
		wantTokens(t, "a"+s+"1", name(1, 1, "a"), literal(1, 2, want), whole(1, 2+len(s), 1), end(1, 3+len(s)))
		wantTokens(t, s+s, literal(1, 1, want), literal(1, 1+len(s), want), end(1, 1+2*len(s)))
		wantTokens(t, s+"#"+s, literal(1, 1, want), end(1, 2+2*len(s)))
		wantTokens(t, s+"\n"+s, literal(1, 1, want), literal(2, 1, want), end(2, 1+len(s)))
	}
	for n := range 256 {
		b := string([]byte{byte(n)})
		s := quote.Quote(b)
		wantTokens(t, s, literal(1, 1, b), end(1, 1+len(s)))
	}
	long := strings.Repeat("a", api.MaxText-2)
	wantTokens(t, `"`+long+`"`, literal(1, 1, long), end(1, api.MaxText+1))
}

func TestBrokenLiterals(t *testing.T) { // P4.1
	for _, s := range []string{
		`"`, `"a`, `"\"`, `"\\\"`, `"a\`, `"\`, `"\n`, `"\x`, `"\x4`, `"\x41`, `"'`,
		"\"\n\"", "\"a\nb\"", "\"\t\"", "\"\r\"", "\"\x00\"", "\"\x1f\"", "\"\x7f\"", "\"\x80\"", "\"\xff\"", "\"\u00e9\"",
		`"\a"`, `"\q"`, `"\r"`, `"\0"`, `"\N"`, `"\X41"`, `"\u0041"`, `"\'"`, `"\ "`, "\"\\\n\"",
		`"\x"`, `"\x4"`, `"\xg0"`, `"\x0g"`, `"\x 1"`, `"""`, `"a""`,
	} {
		col := 1
		if strings.HasPrefix(s, `""`) || strings.HasPrefix(s, `"a"`) {
			col = len(s)
		}
		wantFault(t, s, api.ErrToken, 1, col)
		wantFault(t, "x\n = "+s, api.ErrToken, 2, 3+col)
	}
	wantFault(t, `"a" # "`+"\n"+` "b`, api.ErrToken, 2, 2)
	wantFault(t, `'a'`, api.ErrToken, 1, 1)
	wantFault(t, "`a`", api.ErrToken, 1, 1)
	wantFault(t, `\"a"`, api.ErrToken, 1, 1)
}

func TestNotes(t *testing.T) { // P4.1
	var bytesOfNotes []byte
	for n := range 256 {
		if n != '\n' {
			bytesOfNotes = append(bytesOfNotes, byte(n))
		}
	}
	for _, note := range []string{"#", "##", "# a note", "#\"", "#\\", "#&", "#12a", "# \u00e9", "#\x00\xff", "#\r", "#\t", "# # #", "#" + string(bytesOfNotes)} {
		size := len(note)
		wantTokens(t, note, end(1, 1+size))
		wantTokens(t, note+"\n", end(2, 1))
		wantTokens(t, "a"+note, name(1, 1, "a"), end(1, 2+size))
		wantTokens(t, "a "+note+"\nB", name(1, 1, "a"), great(2, 1, "B"), end(2, 2))
		wantTokens(t, "1"+note+"\n "+note+"\n2", whole(1, 1, 1), whole(3, 1, 2), end(3, 2))
		wantTokens(t, note+"\n"+note, end(2, 1+size))
		wantFault(t, note+"\n&", api.ErrToken, 2, 1)
	}
	wantTokens(t, "a # b \r c", name(1, 1, "a"), end(1, 10))
	wantTokens(t, "=#=\n=", sign(1, 1, "="), sign(2, 1, "="), end(2, 2))
	wantTokens(t, "fn#\nx", word(1, 1, "fn"), name(2, 1, "x"), end(2, 2))
}

func TestPlaces(t *testing.T) { // P4.1, P4.3
	wantTokens(t, " a", name(1, 2, "a"), end(1, 3))
	wantTokens(t, "\ta", name(1, 2, "a"), end(1, 3))
	wantTokens(t, "\ra", name(1, 2, "a"), end(1, 3))
	wantTokens(t, "\na", name(2, 1, "a"), end(2, 2))
	wantTokens(t, "\r\na", name(2, 1, "a"), end(2, 2))
	wantTokens(t, "\n\ra", name(2, 2, "a"), end(2, 3))
	wantTokens(t, "\n\n\n  a", name(4, 3, "a"), end(4, 4))
	wantTokens(t, " \t\r \t\ra", name(1, 7, "a"), end(1, 8))
	wantTokens(t, "a\rb\tc d\ne", name(1, 1, "a"), name(1, 3, "b"), name(1, 5, "c"), name(1, 7, "d"), name(2, 1, "e"), end(2, 2))
	wantTokens(t, "ab\n cd\n\n\tef", name(1, 1, "ab"), name(2, 2, "cd"), name(4, 2, "ef"), end(4, 4))
	wantTokens(t, "\"\\n\" a", literal(1, 1, "\n"), name(1, 6, "a"), end(1, 7))
	wantTokens(t, "007 \"\\x41\" <= 1i a", whole(1, 1, 7), literal(1, 5, "A"), sign(1, 12, "<="), complexOne(1, 15, 1), name(1, 18, "a"), end(1, 19))
	wantFault(t, "a\n\n \t$", api.ErrToken, 3, 3)
	wantFault(t, "\r\n\r\n\r$", api.ErrToken, 3, 2)
}

func TestEndsPlace(t *testing.T) { // P4.1, P4.3
	for s, want := range map[string]api.Token{
		"": end(1, 1), " ": end(1, 2), "\t\t": end(1, 3), "\r": end(1, 2), "\n": end(2, 1), "\n\n": end(3, 1), "\n ": end(2, 2), " \n": end(2, 1), "\r\n": end(2, 1),
		"#": end(1, 2), "# a": end(1, 4), "#\n": end(2, 1), "\n#a": end(2, 3), "#\n#": end(2, 2),
	} {
		wantTokens(t, s, want)
	}
	wantTokens(t, "a", name(1, 1, "a"), end(1, 2))
	wantTokens(t, "a\n", name(1, 1, "a"), end(2, 1))
	wantTokens(t, "a\n\n", name(1, 1, "a"), end(3, 1))
	wantTokens(t, "a\r\n", name(1, 1, "a"), end(2, 1))
	wantTokens(t, "a \t", name(1, 1, "a"), end(1, 4))
	wantTokens(t, "a\nbc", name(1, 1, "a"), name(2, 1, "bc"), end(2, 3))
	wantTokens(t, "a\nbc # d", name(1, 1, "a"), name(2, 1, "bc"), end(2, 7))
}

func TestEachFirstByte(t *testing.T) { // P4.1
	for n := range 256 {
		s := string([]byte{byte(n)})
		switch {
		case s == "\n":
			wantTokens(t, s, end(2, 1))
		case strings.Contains(" \t\r#", s):
			wantTokens(t, s, end(1, 2))
		case n >= 'a' && n <= 'z' || n == '_':
			wantTokens(t, s, name(1, 1, s), end(1, 2))
		case n >= 'A' && n <= 'Z':
			wantTokens(t, s, great(1, 1, s), end(1, 2))
		case n >= '0' && n <= '9':
			wantTokens(t, s, whole(1, 1, int64(n-'0')), end(1, 2))
		case slices.Contains(signs(), s):
			wantTokens(t, s, sign(1, 1, s), end(1, 2))
		default:
			wantFault(t, s, api.ErrToken, 1, 1)
			wantFault(t, "a "+s+" b", api.ErrToken, 1, 3)
			wantFault(t, "a\n"+s, api.ErrToken, 2, 1)
			wantFault(t, "a"+s, api.ErrToken, 1, 2)
		}
	}
}

func TestBytesThatBeginNothing(t *testing.T) { // P4.1
	for _, s := range []string{"$", "@", "?", "^", "~", "\\", "'", "`", "&", "|", "\x00", "\x01", "\v", "\f", "\x1f", "\x7f", "\x80", "\xa0", "\xff", "\u00e9", "\u00a0", "\u2028", "\ufeff"} {
		wantFault(t, s, api.ErrToken, 1, 1)
		wantFault(t, s+"a", api.ErrToken, 1, 1)
	}
}

func TestTwoFaults(t *testing.T) { // P4.1, P0.2
	wantFault(t, "$ 9223372036854775808", api.ErrToken, 1, 1)
	wantFault(t, "9223372036854775808 $", api.ErrOver, 1, 1)
	wantFault(t, "9223372036854775808$", api.ErrOver, 1, 1)
	wantFault(t, "8388608i 12a", api.ErrOver, 1, 1)
	wantFault(t, "12a 8388608i", api.ErrToken, 1, 1)
	wantFault(t, "a 12a\n\"b", api.ErrToken, 1, 3)
	wantFault(t, "a\n\"b\n12a", api.ErrToken, 2, 1)
	wantFault(t, "a\n8388608i \"b", api.ErrOver, 2, 1)
	wantFault(t, "# $\n & $", api.ErrToken, 2, 2)
	wantFault(t, "\"$\" | 9223372036854775808", api.ErrToken, 1, 5)
	wantFault(t, "$"+strings.Repeat(" ", api.MaxText), api.ErrLong, 0, 0)
	wantFault(t, "9223372036854775808"+strings.Repeat(" ", api.MaxText), api.ErrLong, 0, 0)
}

func TestLongTexts(t *testing.T) { // P4.1
	const most = 65536
	blanks := strings.Repeat(" ", most)
	wantTokens(t, blanks, end(1, most+1))
	wantFault(t, blanks+" ", api.ErrLong, 0, 0)
	feeds := strings.Repeat("\n", most)
	wantTokens(t, feeds, end(most+1, 1))
	wantFault(t, feeds+"\n", api.ErrLong, 0, 0)
	long := strings.Repeat("a", most)
	wantTokens(t, long, name(1, 1, long), end(1, most+1))
	wantFault(t, long+"a", api.ErrLong, 0, 0)
	note := "#" + strings.Repeat("$", most-1)
	wantTokens(t, note, end(1, most+1))
	wantFault(t, note+"$", api.ErrLong, 0, 0)
	points := strings.Repeat(".", most)
	if l, f := Tokens(points); f.Code != api.OK || len(l) != most+1 || l[most-1] != sign(1, most, ".") || l[most] != end(1, most+1) {
		t.Errorf("MaxText points: %d tokens, %v", len(l), f)
	}
	wantFault(t, points+".", api.ErrLong, 0, 0)
	wantFault(t, points[1:]+"$", api.ErrToken, 1, most)
	wantFault(t, strings.Repeat("$", 1<<20), api.ErrLong, 0, 0)
}

// shortTexts are all texts of up to so many of the pieces.
func shortTexts(count int, pieces ...string) []string {
	all := []string{""}
	for from, step := 0, 0; step < count; step++ {
		to := len(all)
		for _, s := range all[from:to] {
			for _, p := range pieces {
				all = append(all, s+p)
			}
		}
		from = to
	}
	return all
}

func allTexts() []string {
	all := shortTexts(4, "i", "f", "N", "_", "0", "9", `"`, `\`, "=", "<", "&", "#", " ", "\n", "\x80")
	all = append(all, shortTexts(5, "i", "1", "8388608", "9223372036854775807", `"`, "n", "#", "\n", "!", "=")...)
	for a := range 256 {
		for b := range 256 {
			all = append(all, string([]byte{byte(a), byte(b)}))
		}
	}
	return append(all, samples(60000)...)
}

func TestAgainstWhatIsSaid(t *testing.T) { // P4.1, P4.3, P0.1
	d := newSaid()
	right := 0
	for _, s := range allTexts() {
		want, fault := d.tokens(s)
		got, f := Tokens(s)
		if f != fault || !slices.Equal(got, want) {
			t.Fatalf("Tokens(%q): %v, %v, want %v, %v", s, got, f, want, fault)
		}
		if f.Code == api.OK {
			right++
		}
	}
	if right < 10000 {
		t.Errorf("only %d texts have no fault", right)
	}
}

// withoutPlaces are tokens of which all that is left to hold against each other is what they are.
func withoutPlaces(l []api.Token) []api.Token {
	l = slices.Clone(l)
	for i := range l {
		l[i].Line, l[i].Col = 0, 0
	}
	return l
}

// writings are tokens as they may stand in a text.
func writings() []string {
	return append(append(words(), signs()...), "a", "_b", "Big", "0", "007", "12i", `""`, `"a # b"`, `"\n"`)
}

func gaps() []string {
	return []string{" ", "\t", "\r", "\n", "\r\n", "  \n\t ", "#\n", " # note\n", "# \"&\xff \r\n\n", "#a\n#b\n"}
}

func TestBlanksPlayNoPart(t *testing.T) { // P4.2
	for _, a := range writings() {
		for _, b := range writings() {
			want, f := Tokens(a + " " + b)
			if f.Code != api.OK || len(want) != 3 {
				t.Fatalf("Tokens(%q): %v, %v", a+" "+b, want, f)
			}
			for _, gap := range gaps() {
				for _, s := range []string{a + gap + b, gap + a + " " + b, a + " " + b + gap, gap + a + gap + b + gap} {
					got, f := Tokens(s)
					if f.Code != api.OK || !slices.Equal(withoutPlaces(got), withoutPlaces(want)) {
						t.Fatalf("Tokens(%q): %v, %v, want %v but for places", s, got, f, want)
					}
				}
			}
		}
	}
}

func TestBlanksOfWholeTexts(t *testing.T) { // P4.2
	pieces := writings()
	x := uint64(0x9e3779b97f4a7c15)
	next := func(below int) int {
		x ^= x << 13
		x ^= x >> 7
		x ^= x << 17
		return int((x >> 20) % uint64(below))
	}
	for range 2000 {
		one, other := "", ""
		for range next(30) {
			piece := pieces[next(len(pieces))]
			one += piece + " "
			other += strings.Repeat(" ", next(3)) + piece + gaps()[next(len(gaps()))]
		}
		want, f1 := Tokens(one)
		got, f2 := Tokens(other)
		if f1.Code != api.OK || f2.Code != api.OK || !slices.Equal(withoutPlaces(got), withoutPlaces(want)) {
			t.Fatalf("%q: %v, %v, but %q: %v, %v", one, want, f1, other, got, f2)
		}
	}
}

func TestBlanksAheadOfFaults(t *testing.T) { // P4.2
	for _, s := range []string{"$", "12a", "8388608i", `"a`, "&"} {
		_, want := Tokens("a " + s)
		for _, gap := range gaps() {
			text := "a" + gap + s
			line, col := placeOf(text, 1+len(gap))
			if _, f := Tokens(text); f != (api.Fault{Code: want.Code, Line: line, Col: col}) {
				t.Errorf("Tokens(%q): %v, want %v at %d %d", text, f, want.Code, line, col)
			}
		}
	}
}

// standsAt is how many bytes a token has at the front of a text; 0 if it doesn't stand there.
func standsAt(s string, x api.Token) int {
	switch x.Kind {
	case api.TokInt, api.TokComp:
		size := len(s) - len(strings.TrimLeft(s, "0123456789"))
		if number, err := strconv.ParseInt(s[:size], 10, 64); err != nil || number != x.Num {
			return 0
		}
		if x.Kind == api.TokComp {
			size++
		}
		return size
	case api.TokStr:
		size, _ := quote.End(s)
		if text, err := quote.Unquote(s[:size]); err != api.OK || text != x.Text {
			return 0
		}
		return size
	}
	if !strings.HasPrefix(s, x.Text) {
		return 0
	}
	return len(x.Text)
}

func TestTokensStandAtTheirPlaces(t *testing.T) { // P4.3
	gap := newSaid().gap
	for _, s := range allTexts() {
		l, f := Tokens(s)
		if f.Code != api.OK {
			continue
		}
		lines := strings.SplitAfter(s, "\n")
		// behind is where in the text the last token ended.
		behind, starts := 0, []int{0}
		for _, line := range lines {
			starts = append(starts, starts[len(starts)-1]+len(line))
		}
		for i, x := range l {
			at := starts[x.Line-1] + x.Col - 1
			if at < behind || len(gap.FindString(s[behind:at])) != at-behind {
				t.Fatalf("Tokens(%q): token %d, %v, stands at byte %d, the one ahead of it ended at %d", s, i, x, at, behind)
			}
			if i == len(l)-1 {
				if x.Kind != api.TokEnd || at != len(s) {
					t.Fatalf("Tokens(%q): the end is %v", s, x)
				}
				break
			}
			size := standsAt(s[at:], x)
			if size == 0 {
				t.Fatalf("Tokens(%q): token %d, %v, doesn't stand at byte %d", s, i, x, at)
			}
			behind = at + size
		}
	}
}

func TestPlacesRise(t *testing.T) { // P4.3
	for _, s := range allTexts() {
		l, _ := Tokens(s)
		for i := 1; i < len(l); i++ {
			if a, b := l[i-1], l[i]; b.Line < a.Line || b.Line == a.Line && b.Col <= a.Col {
				t.Fatalf("Tokens(%q): %v stands ahead of %v", s, a, b)
			}
		}
	}
}

func TestAnswersAreNew(t *testing.T) { // P0.3, P0.5
	const s = "fn f(a) { print \"x\"; } # note"
	one, _ := Tokens(s)
	want := slices.Clone(one)
	other, _ := Tokens(s)
	for i := range one {
		one[i] = api.Token{Kind: 99, Text: "written over"}
	}
	if !slices.Equal(other, want) {
		t.Errorf("what was answered was changed by another answer: %v", other)
	}
	if again, _ := Tokens(s); !slices.Equal(again, want) {
		t.Errorf("Tokens(%q): %v the third time, %v the first", s, again, want)
	}
}
