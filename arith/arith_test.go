package arith

import (
	"math"
	"slices"
	"strings"
	"testing"

	"turnkey/api"
	"turnkey/num"
)

// P27.1
func TestTokens(t *testing.T) {
	for text, want := range map[string]string{
		"": "", " \t\n": "", "1+2*x": "1 + 2 * x", " 1 \n": "1", "0x1Fg": "0x1F g", "0x": "0 x", "0xg": "0 xg", "0X1": "0 X1", "007": "007", "12ab": "12 ab", "_a1 B": "_a1 B", "<<<=<>>=>===!=!&&&|||": "<< <= < >> >= > == = FALSE",
		"<<<=<": "<< <= <", ">>>=>": ">> >= >", "===": "== FALSE", "==!=!": "== != !", "&&&": "&& &", "|||": "|| |", "+-*/%^~?:()": "+ - * / % ^ ~ ? : ( )", "a=1": "FALSE", "1.5": "FALSE", "a,b": "FALSE", "$a": "FALSE", "a\x00": "FALSE", "\xc3\xa9": "FALSE", "a\r": "FALSE", "++": "+ +", "a'": "FALSE",
	} {
		got, ok := Tokens(text)
		if strings.HasSuffix(want, "FALSE") {
			if ok || len(got) != 0 {
				t.Errorf("Tokens(%q) = %q, %v", text, got, ok)
			}
			continue
		}
		if !ok || !slices.Equal(got, strings.Fields(want)) {
			t.Errorf("Tokens(%q) = %q, %v", text, got, ok)
		}
	}
	if l, ok := Tokens(strings.Repeat("1 ", 500)); !ok || len(l) != 500 {
		t.Error(len(l), ok)
	}
	if l, ok := Tokens(strings.Repeat(" ", 1001)); ok || len(l) != 0 {
		t.Error(len(l), ok)
	}
}

// P27.2
func TestEval(t *testing.T) {
	vars := []string{"x=0", "y=-7", "z=08", "w=9=9", "x=5", "e=", "xy=3", "bad", "m=9223372036854775807"}
	for text, want := range map[string]int{
		"": 0, " ": 0, "1+2*3": 7, "(1+2)*3": 9, "1<<65": 2, "1<<-1": math.MinInt, "-8>>1": -4, "x?2:3": 3, "1?2:0?3:4": 2, "0?2:0?3:4": 4, "1?0?5:6:7": 6, "10-3-2": 5, "100/10/5": 2, "7%4*2": 6, "2*7%4": 2, "-7/2": -3, "-7%2": -1, "7/-2": -3, "7%-2": 1,
		"1||0&&0": 1, "0||0": 0, "2&&3": 1, "1|2^3&2": 1, "6^3": 5, "6&3": 2, "4|1": 5, "1==1!=0": 1, "2>1>0": 1, "3<2": 0, "2<=2": 1, "2>=3": 0, "1<2==1": 1, "1+1<<2": 8, "1|1==2": 1, "5&4==4": 1,
		"!0": 1, "!5": 0, "~0": -1, "-+-5": 5, "- -5": 5, "!!7": 1, "-2*-3": 6, "2- -1": 3, "~-1": 0,
		"y": -7, "-y": 7, "z": 0, "w": 0, "e": 0, "none": 0, "x": 0, "xy": 3, "bad": 0, "y*y": 49, "m+1": math.MinInt,
		"0x10": 16, "0xfF": 255, "007": 7, "010": 10, "18446744073709551616": 0, "18446744073709551615": -1, "9223372036854775808": math.MinInt, "0xffffffffffffffffff": -1, "99999999999999999999": 7766279631452241919, "0x0": 0, "00": 0,
		"-9223372036854775808/-1": math.MinInt, "-9223372036854775808%-1": 0, "1?2:3+1": 2,
	} {
		if got, e := Eval(text, vars); got != want || e != api.OK {
			t.Errorf("Eval(%q) = %d, %d; want %d", text, got, e, want)
		}
	}
	for _, text := range []string{"1+", "+", "(", ")", "()", "(1", "1)", "1 2", "a b", "12ab", "1?2", "1?2:", "1?:2", "?1:2", "1:2", "1++", "*1", "1**2", "a=1", "1,2", "!", "~", "1!", "0x", "$x", "a(1)", "1 ? 2 : 3 : 4", "1/0 +", strings.Repeat(" ", 1001), "&&1", "1<>2", "1(2)"} {
		if got, e := Eval(text, vars); got != 0 || e != api.ErrSyntax {
			t.Errorf("Eval(%q) = %d, %d", text, got, e)
		}
	}
	for _, text := range []string{"7/0", "7%0", "1||1/0", "0&&1/0", "1?2:3/0", "0?3%0:2", "1/x", "(1/0)*0", "-(1/0)", "1/0?2:3"} {
		if got, e := Eval(text, vars); got != 0 || e != api.ErrInval {
			t.Errorf("Eval(%q) = %d, %d", text, got, e)
		}
	}
}

// P27.3
func TestApply(t *testing.T) {
	for _, c := range []struct {
		op         string
		a, b, want int
	}{
		{"+", math.MaxInt, 1, math.MinInt}, {"-", math.MinInt, 1, math.MaxInt}, {"*", math.MaxInt, 2, -2}, {"/", -7, 2, -3}, {"%", -7, 2, -1}, {"/", math.MinInt, -1, math.MinInt}, {"%", math.MinInt, -1, 0}, {"/", math.MinInt, 1, math.MinInt},
		{"<<", 1, 63, math.MinInt}, {"<<", 1, 64, 1}, {"<<", 1, -64, 1}, {"<<", 1, -1, math.MinInt}, {">>", -1, 63, -1}, {">>", math.MinInt, 127, -1}, {">>", 8, 65, 4}, {"<<", 3, math.MinInt, 3},
		{"<", 1, 2, 1}, {"<", 2, 2, 0}, {">", 2, 1, 1}, {">", 1, 1, 0}, {"<=", 1, 1, 1}, {"<=", 2, 1, 0}, {">=", 1, 1, 1}, {">=", 1, 2, 0}, {"==", 3, 3, 1}, {"==", 3, 4, 0}, {"!=", 3, 4, 1}, {"!=", 3, 3, 0}, {"&&", 2, 4, 1}, {"&&", 2, 0, 0}, {"&&", 0, 2, 0}, {"||", 0, 4, 1}, {"||", 4, 0, 1}, {"||", 0, 0, 0}, {"&", 6, 3, 2}, {"^", 6, 3, 5}, {"|", 6, 3, 7},
	} {
		if got, e := Apply(c.op, c.a, c.b); got != c.want || e != api.OK {
			t.Errorf("%d %s %d = %d, %d", c.a, c.op, c.b, got, e)
		}
	}
	for _, op := range []string{"/", "%"} {
		if got, e := Apply(op, 5, 0); got != 0 || e != api.ErrInval {
			t.Error(op, got, e)
		}
	}
	for _, op := range []string{"", "?", ":", "(", ")", "!", "~", "=", "<<=", "x", "**"} {
		if got, e := Apply(op, 5, 0); got != 0 || e != api.ErrSyntax {
			t.Error(op, got, e)
		}
	}
}

// P27.3
func TestUnary(t *testing.T) {
	for _, c := range []struct {
		op      string
		a, want int
	}{{"+", -5, -5}, {"-", 5, -5}, {"-", math.MinInt, math.MinInt}, {"!", 0, 1}, {"!", -3, 0}, {"~", 5, -6}} {
		if got, ok := Unary(c.op, c.a); got != c.want || !ok {
			t.Errorf("%s %d = %d, %v", c.op, c.a, got, ok)
		}
	}
	for _, op := range []string{"", "*", "++", "x", "&"} {
		if got, ok := Unary(op, 5); got != 0 || ok {
			t.Error(op, got, ok)
		}
	}
}

func repeat(n int, s string) string { return strings.Repeat(s, n) }

// P27.4
func TestDepth(t *testing.T) {
	for text, want := range map[string]api.Errno{
		repeat(39, "(") + "1" + repeat(39, ")"): api.OK, repeat(40, "(") + "1" + repeat(40, ")"): api.ErrDeep, repeat(40, "("): api.ErrDeep, repeat(39, "("): api.ErrSyntax, repeat(40, "(") + ")": api.ErrDeep, repeat(41, ")"): api.ErrSyntax, "1 1" + repeat(41, "("): api.ErrSyntax, repeat(41, "(") + "$": api.ErrSyntax, repeat(39, "(") + "*" + repeat(9, "("): api.ErrSyntax,
		repeat(39, "-") + "1": api.OK, repeat(40, "-") + "1": api.ErrDeep, repeat(40, "-"): api.ErrDeep, repeat(39, "!"): api.ErrSyntax, repeat(20, "-(") + repeat(20, ")"): api.ErrDeep,
		repeat(39, "1?2:") + "3": api.OK, repeat(40, "1?2:") + "3": api.ErrDeep, repeat(39, "1?") + "1" + repeat(39, ":2"): api.OK, repeat(40, "1?") + "1" + repeat(40, ":2"): api.ErrDeep, repeat(40, "1?") + ":": api.ErrDeep, repeat(40, "1?2:"): api.ErrDeep, repeat(39, "1?2:"): api.ErrSyntax,
		"1" + repeat(300, "+1"): api.OK, "1/0" + repeat(41, "+(1"): api.ErrDeep, "1/0+" + repeat(39, "(") + "1" + repeat(39, ")"): api.ErrInval, repeat(38, "(") + "-1" + repeat(38, ")"): api.OK, repeat(39, "(") + "-1" + repeat(39, ")"): api.ErrDeep,
	} {
		if _, e := Eval(text, nil); e != want {
			t.Errorf("Eval(%q): %d; want %d", text, e, want)
		}
	}
}

// P27.5
func TestDecEvaluatesToItself(t *testing.T) {
	for _, n := range []int{0, 1, -1, 10, -987654321, math.MaxInt, math.MinInt} {
		if got, e := Eval(num.Dec(n), nil); got != n || e != api.OK {
			t.Error(n, got, e)
		}
	}
}
