package check_test

import (
	"fmt"
	"strings"
	"testing"

	"hindcast/api"
)

// fitsWanted tells whether a type fits another one.
func fitsWanted(have, want string) bool {
	return have == want || have == "nil" && mayBeNil(want)
}

// nameOf is the name that is of a type.
func nameOf(is string) string { return ofType(is)[0] }

func TestWhatFits(t *testing.T) { // P10.1
	more := "rec R { i: int; c: comp; s: str; b: bool; p: P; q: Q; l: [int]; m: [[int]]; }\n"
	for _, asked := range kindsOfTypes() {
		if asked == "nil" || asked == "none" {
			continue
		}
		name := nameOf(asked)
		for _, have := range kindsOfTypes() {
			for _, e := range ofType(have) {
				isRight := fitsWanted(have, asked)
				want(t, isRight, inAll("var v: "+asked+" = ^"+e+";"))
				want(t, isRight, inAll("if b { } else { while b { var v: "+asked+" = ^"+e+"; } }"))
				want(t, isRight, inAll(name+" = ^"+e+";"))
				want(t, isRight, inAll("var v: ["+asked+"] = nil; v[i] = ^"+e+";"))
				want(t, isRight, inAll("var v: [["+asked+"]] = nil; v[0][i + 1] = ^"+e+";"))
				want(t, isRight, more+inAll("var r: R = nil; r."+name+" = ^"+e+";"))
				want(t, isRight, prelude+"fn f"+many+": "+asked+" { return ^"+e+"; }")
				want(t, isRight, prelude+"fn f"+many+": "+asked+" { if b { return ^"+e+"; } return "+name+"; }")
				want(t, isRight, inAll("f(1, ^"+e+", true);")+"fn f(a: int, x: "+asked+", z: bool) {}")
			}
		}
	}
}

func TestOtherRecordsAndLists(t *testing.T) { // P10.1
	for _, statement := range []string{
		"var v: P = ^q;", "var v: [P] = ^make [Q](1);", "p = ^q;", "q = ^tq(q);", "p.p = ^q;", "p.l = ^make [Q](1);", "p.l[0] = ^q;", "l = ^m;", "m[0] = ^m;", "m = m^[0];", "var v: [[P]] = p^.l;", "q.x = q^.y;",
	} {
		wantFault(t, inAll(statement), api.ErrType)
	}
	for _, statement := range []string{"var v: P = tq(q);", "var v: [P] = p.l;", "p.p = p.l[0].p;", "p.l = nil;", "p.l[0] = nil;", "m[0] = l;", "m[0] = nil;", "l = m[0];", "m = nil;", "q = nil;", "q.y = q.y * q.y;", "i = s[0];"} {
		wantRight(t, inAll(statement))
	}
}

func TestSetOfATextsByte(t *testing.T) { // P10.1, P0.2
	for statement, code := range map[string]api.Errno{
		"s^[0] = 1;":                        api.ErrType,
		"s^[0] = s;":                        api.ErrType,
		"s^[0] = nil;":                      api.ErrType,
		`text(1)^[i] = 1;`:                  api.ErrType,
		"q.x^[i] = 1;":                      api.ErrType,
		"var v: [str] = nil; v[0]^[1] = 2;": api.ErrType,
		"s[^true] = 1;":                     api.ErrType,
		"s[^true] = 1 + true;":              api.ErrType,
		"s[0] = 1 ^+ true;":                 api.ErrType,
		"s[0] = ^two();":                    api.ErrCount,
		"s[0] = p^.z;":                      api.ErrName,
		"s[p^.z] = two();":                  api.ErrName,
		"^i[0] = 1;":                        api.ErrType,
		"^i[0] = 1 + true;":                 api.ErrType,
		"s^[0][1] = 2;":                     api.ErrType,
		"^nil[0] = 1;":                      api.ErrType,
		"^nil.x = 1;":                       api.ErrType,
		"p^.z = 1 + true;":                  api.ErrName,
		"l[^s] = 1 + true;":                 api.ErrType,
		"l[1] = 1 ^+ true;":                 api.ErrType,
		"i = 1 ^+ true;":                    api.ErrType,
		"p.x = ^two(1);":                    api.ErrCount,
		"^no()[0] = 1;":                     api.ErrType,
		"i = ^s;":                           api.ErrType,
		"l[0] = ^s;":                        api.ErrType,
		"s^[l[0]] = 1;":                     api.ErrType,
		"var v: [str] = nil; v[0] = v[0]; v[1] = ^1;": api.ErrType,
	} {
		wantFault(t, inAll(statement), code)
	}
	for _, statement := range []string{"s = s;", `s = "a" + chr(s[0]);`, "var v: [str] = nil; v[0] = s; v[s[0]] = v[0];", "l[s[0]] = s[1];", "q.x = s;"} {
		wantRight(t, inAll(statement))
	}
}

func TestConditions(t *testing.T) { // P10.1
	for _, is := range kindsOfTypes() {
		for _, e := range ofType(is) {
			want(t, is == "bool", inAll("if ^"+e+" {}"))
			want(t, is == "bool", inAll("if ^"+e+" {} else {}"))
			want(t, is == "bool", inAll("while ^"+e+" {}"))
			want(t, is == "bool", inAll("while b { if !b { if ^"+e+" {} } }"))
		}
	}
	// The condition is looked at ahead of the blocks, and these one behind the other.
	for _, statement := range []string{
		"if ^i { print 1 + true; }", "while ^i { print 1 + true; }", "if 1 ^+ true { print two(); }", "if b { print 1 ^+ true; } else { print 1 + s; }", "if b { print 1; } else { print 1 ^+ s; }",
		"if b { if ^i {} } else { i = s; }", "while b { while b { l[^b] = s; } i = s; }", "if b { i = 1; } else { i = ^s; } i = b;", "if b {} i = ^s; while i {}",
	} {
		wantFault(t, inAll(statement), api.ErrType)
	}
}

func TestPrint(t *testing.T) { // P10.1
	for _, is := range kindsOfTypes() {
		for _, e := range ofType(is) {
			want(t, is != "none", inAll("print ^"+e+";"))
		}
	}
}

func TestReturn(t *testing.T) { // P10.1
	for _, is := range kindsOfTypes() {
		for _, e := range ofType(is) {
			wantFault(t, inAll("return ^"+e+";"), api.ErrType)
			wantFault(t, inAll("while b { return ^"+e+"; }"), api.ErrType)
			if is != "nil" && is != "none" {
				wantFault(t, prelude+"fn f(): "+is+" { ^return; }", api.ErrType)
				wantFault(t, prelude+"fn f"+many+": "+is+" { if true { ^return; } return "+e+"; }", api.ErrType)
			}
		}
	}
	wantRight(t, inAll("return;"))
	wantRight(t, inAll("if b { return; } while b { return; } return; return;"))
	wantFault(t, inAll("return 1 ^+ true;"), api.ErrType)
	wantFault(t, inAll("return ^two();"), api.ErrCount)
	wantFault(t, prelude+"fn f(): int { return ^two(true); }", api.ErrCount)
	wantFault(t, prelude+"fn f(): int { return ^no(); }", api.ErrType)
	wantFault(t, prelude+"fn f(): int { return 1; return ^nil; }", api.ErrType)
}

func TestNothingIsAnswered(t *testing.T) { // P10.1, P10.2
	for _, statement := range []string{
		"var v: int = ^no();", "var v: P = ^no();", "var v: [int] = ^no();", "i = ^no();", "p = ^no();", "l[^no()] = 1;", "l[0] = ^no();", "^no()[0] = 1;", "^no().x = 1;", "p.x = ^no();", "if ^no() {}", "while ^no() {}", "return ^no();", "print ^no();",
		"two(^no(), p);", "two(1, ^no());", "len(^no());", "text(^no());", "re(^no());", "im(^no());", "pair(^no(), 1);", "pair(1, ^no());", "chr(^no());", "rand(^no());", "print l[^no()];", "print s[^no()];", "print ^no()[0];", "print ^no().x;", "print -^no();", "print !^no();",
		"print no() ^+ no();", "print no() ^== no();", "print no() ^!= no();", "print no() ^!= nil;", "print nil ^== no();", "print p ^== no();", "print no() ^&& b;", "print b ^|| no();", "print no() ^< 1;", "print make [int](^no());", "print make [P](^main());", "two(^main(), p);",
	} {
		wantFault(t, inAll(statement), api.ErrType)
	}
	for _, name := range []string{"no", "main", "all"} {
		wantFault(t, inAll("print ^"+name+"(no());"), api.ErrCount)
	}
	wantFault(t, inAll("print ^read(no());"), api.ErrCount)
	wantRight(t, inAll("no(); main(); all(1, 1i, s, true, nil, nil, nil, nil); two(1, nil); tp(p); len(s); read();"))
}

// blocksThatEnd are blocks, by whether they end.
func blocksThatEnd() map[string]bool {
	blocks := map[string]bool{
		"": false, "return 1;": true, "print 1;": false, "print 1; return 1;": true, "return 1; print 1;": false, "return 1; return 2;": true, "return 1; var a: int = 1;": false,
		"while true { return 1; }": false, "while true { return 1; } return 1;": true, "return 1; while true { return 1; }": false, "return 1; i = 1;": false, "return 1; no();": false, "no();": false, "i = 1;": false,
		"if true { return 1; } return 1; if true {}": false,
	}
	parts := map[string]bool{}
	for block, ends := range blocks {
		parts[block] = ends
	}
	for first, firstEnds := range parts {
		blocks["if b {"+first+"}"] = false
		blocks["while b {"+first+"}"] = false
		blocks["if b {"+first+"} return 1;"] = true
		for second, secondEnds := range parts {
			blocks["if b {"+first+"} else {"+second+"}"] = firstEnds && secondEnds
			blocks["print 1; if b {"+first+"} else {"+second+"}"] = firstEnds && secondEnds
			blocks["if b {"+first+"} else {"+second+"} print 1;"] = false
			blocks["if b {"+first+"} else { if b {return 1;} else {"+second+"} }"] = firstEnds && secondEnds
			blocks["if b { if i == 1 {"+first+"} else {"+second+"} } else { return 2; }"] = firstEnds && secondEnds
			blocks["if b { return 2; } else { if i == 1 {"+first+"} "+second+"}"] = secondEnds
			blocks["if b {"+first+"} if b { return 1; } else {"+second+"}"] = secondEnds
		}
	}
	return blocks
}

func TestBlocksThatEnd(t *testing.T) { // P10.1
	ended := map[bool]int{}
	for block, ends := range blocksThatEnd() {
		ended[ends]++
		source := prelude + "\n\n  ^fn f(i: int, b: bool): int { " + block + " }"
		if ends {
			wantRight(t, source)
		} else {
			wantFault(t, source, api.ErrReturn)
		}
		// One without a result needn't end.
		wantRight(t, prelude+"fn f(i: int, b: bool) { "+strings.NewReplacer("return 1", "return", "return 2", "return").Replace(block)+" }")
	}
	if ended[true] < 200 || ended[false] < 500 {
		t.Error("too few:", ended)
	}
	for _, is := range []string{"comp", "str", "bool", "P", "[P]"} {
		wantFault(t, prelude+"^fn f(): "+is+" {}", api.ErrReturn)
		wantFault(t, prelude+"^fn f(a: int, b: "+is+"): "+is+" { print b; }", api.ErrReturn)
	}
}

func TestOrderOfFunctions(t *testing.T) { // P10.1, P0.2
	faults := []struct {
		code   api.Errno
		marked string
	}{
		{api.ErrType, "fn #(): int { print 1 ^+ true; return 1; }"},
		{api.ErrType, "fn #(): int { print 1 ^+ true; }"},
		{api.ErrType, "fn #() { print ^#(); }"},
		{api.ErrType, "fn #(): int { if 1 < 2 { ^return; } }"},
		{api.ErrCount, "fn #() { while 1 < 2 { ^#(1); } }"},
		{api.ErrName, "fn #(a: P) { a^.y = 1; }"},
		{api.ErrReturn, "^fn #(): int {}"},
		{api.ErrReturn, "^fn #(): int { if 1 < 2 { return 1; } }"},
	}
	for i, one := range faults {
		for j, other := range faults {
			first, second := strings.ReplaceAll(one.marked, "#", "f"), strings.ReplaceAll(other.marked, "#", "g")
			second = strings.ReplaceAll(second, "^", "")
			for place := range 3 {
				parts := []string{first, second}
				parts = append(parts[:place:place], append([]string{"fn main() {}"}, parts[place:]...)...)
				wantFault(t, "rec P { x: int; }\n"+strings.Join(parts, "\n"), one.code)
			}
			if t.Failed() {
				t.Fatal(fmt.Sprint("faults ", i, j))
			}
		}
	}
}

func TestOrderOfStatements(t *testing.T) { // P10.1, P0.2
	statements := map[string]api.Errno{
		"var v#: int = ^s;": api.ErrType, "i = ^s;": api.ErrType, "if ^i {}": api.ErrType, "while ^i {}": api.ErrType, "if b {} else { i = ^b; }": api.ErrType, "return ^1;": api.ErrType, "print ^no();": api.ErrType,
		"^two();": api.ErrCount, "print p^.z;": api.ErrName, "s^[0] = 1;": api.ErrType,
	}
	for one, code := range statements {
		for other := range statements {
			first, second := strings.ReplaceAll(one, "#", "1"), strings.ReplaceAll(strings.ReplaceAll(other, "#", "2"), "^", "")
			wantFault(t, inAll(first+"\n"+second), code)
			wantFault(t, inAll("if b { "+first+" }\n"+second), code)
			wantFault(t, inAll("if b {} else { "+first+" }\n"+second), code)
			wantFault(t, inAll("while b { print 1; "+first+" "+second+"}"), code)
			wantFault(t, inAll("if b { "+first+" } else { "+second+" }"), code)
		}
	}
}
