package tree

import (
	"fmt"
	"strings"
	"testing"

	"turnkey/api"
)

// word writes parts down: texts as they are, Quoted parts in double angles.
func showWord(w []api.Part) string {
	var out []string
	for _, p := range w {
		s := ""
		switch p.Kind {
		case api.PartText:
			s = fmt.Sprintf("%q", p.Text)
		case api.PartParam:
			s = "$" + p.Text
			if p.Op != "" {
				s += "," + p.Op + ",[" + showWord(p.Word) + "]"
			}
		case api.PartCmd:
			s = "$(" + showAll(p.Cmd) + ")"
		case api.PartArith:
			s = "$((" + showWord(p.Word) + "))"
		default:
			s = "?"
		}
		if p.Quoted {
			s = "<" + s + ">"
		}
		out = append(out, s)
	}
	return strings.Join(out, " ")
}

func showAll(l []api.Cmd) string {
	var out []string
	for _, c := range l {
		out = append(out, showCmd(c))
	}
	return strings.Join(out, " ")
}

// showCmd writes a command down: its kind and everything that it has.
func showCmd(c api.Cmd) string {
	kinds := []string{"?", "simple", "pipe", "and", "or", "list", "group", "sub", "if", "while", "for", "case", "func"}
	out := []string{kinds[c.Kind]}
	if c.Not {
		out = append(out, "not")
	}
	if c.Name != "" {
		out = append(out, "name="+c.Name)
	}
	if c.In {
		out = append(out, "in")
	}
	for _, a := range c.Assigns {
		out = append(out, a.Name+"=["+showWord(a.Word)+"]")
	}
	for _, w := range c.Words {
		out = append(out, "["+showWord(w)+"]")
	}
	for _, i := range c.Items {
		s := "item"
		for _, w := range i.Patterns {
			s += "[" + showWord(w) + "]"
		}
		out = append(out, s+"{"+showAll(i.Body)+"}")
	}
	for _, k := range c.Kids {
		out = append(out, showCmd(k))
	}
	for _, r := range c.Redirs {
		out = append(out, fmt.Sprintf("%d%s[%s]", r.Fd, r.Op, showWord(r.Word)))
	}
	return "(" + strings.Join(out, " ") + ")"
}

// P25.1, P25.2
func TestWord(t *testing.T) {
	for raw, want := range map[string]string{
		"": "", "abc": `"abc"`, `a\ b`: `"a" <" "> "b"`, `\'\"`: `<"'\"">`, "'a b'": `<"a b">`, "''": `<"">`, "''''": `<"">`, "a''b": `"a" <""> "b"`, "'a'\"b\"\\c": `<"abc">`, `"a b"`: `<"a b">`, `""`: `<"">`, "\"\\\n\"": `<"">`, "\"a\\\nb\"": `<"ab">`,
		`"\$\"\\\a\'"`: `<"$\"\\\\a\\'">`, "\"\\`'\"": "<\"`'\">", `"('"`: `<"('">`, "a(b'c')d": `"a(b" <"c"> ")d"`, "a b;c": `"a b;c"`, "a\nb": `"a\nb"`,
		"$a": "$a", "$a$b": "$a $b", "$ab-c": `$ab "-c"`, "$1a": `$1 "a"`, "$12": `$1 "2"`, "$?$#$@$*$0$9": "$? $# $@ $* $0 $9", "$": `"$"`, "$-": `"$-"`, "a$ b": `"a$ b"`, "$$x": `"$" $x`, `"$"`: `<"$">`, `"$a"`: "<$a>", `"a$b"c`: `<"a"> <$b> "c"`, `""$a`: `<""> $a`, `"$a"''`: `<$a> <"">`,
		"$" + strings.Repeat("n", 34): "$" + strings.Repeat("n", 32) + ` "nn"`,
		"${a}":                        "$a", "${1}": "$1", "${#}": "$#", "${@}": "$@", "${#a}": "$a,length,[]", "${##}": "$#,length,[]", "${#?}": "$?,length,[]", "${#@}": "$@,length,[]", "${#1}": "$1,length,[]", "${#-}": "$#,-,[]", "${###}": "$#,##,[]", "${###x}": `$#,##,["x"]`, "${#:-x}": `$#,:-,["x"]`, "${##x}": `$#,#,["x"]`,
		"${a-b}": `$a,-,["b"]`, "${a:-b c}": `$a,:-,["b c"]`, "${a=}": "$a,=,[]", "${a:=x}": `$a,:=,["x"]`, "${a?}": "$a,?,[]", "${a:?x}": `$a,:?,["x"]`, "${a+x}": `$a,+,["x"]`, "${a:+x}": `$a,:+,["x"]`, "${a%x}": `$a,%,["x"]`, "${a%%x}": `$a,%%,["x"]`, "${a#x}": `$a,#,["x"]`, "${a##x}": `$a,##,["x"]`, "${a%%%}": `$a,%%,["%"]`,
		"${a-${b-c}}": `$a,-,[$b,-,["c"]]`, "${a-'}'}": `$a,-,[<"}">]`, `"${a-'b' "c"}"`: `<$a,-,[<"b"> " " <"c">]>`, "${a-$(b)}": `$a,-,[$((simple ["b"]))]`, "${@-x}": `$@,-,["x"]`,
		"$(a b)": `$((simple ["a"] ["b"]))`, "$()": "$()", `"$(a)"`: `<$((simple ["a"]))>`, "$(a;b)x": `$((list (simple ["a"]) (simple ["b"]))) "x"`, "$( (a) )": `$((sub (simple ["a"])))`,
		"$((1+2))": `$(("1+2"))`, "$((a*(1)))x": `$(("a*(1)")) "x"`, "$(())": "$(())", `"$(( $a ))"`: `<$((" " $a " "))>`, "$((a);(b))": "FAULT", "$((a) )": `$((sub (simple ["a"])))`,
	} {
		if want == "FAULT" {
			if _, f := Word(raw); f != (api.Fault{Code: api.ErrSyntax}) {
				t.Errorf("Word(%q): %v", raw, f)
			}
			continue
		}
		if got, f := Word(raw); f != (api.Fault{}) || showWord(got) != want {
			t.Errorf("Word(%q) = %s, %v; want %s", raw, showWord(got), f, want)
		}
	}
}

// P25.1, P25.2
func TestWordFaults(t *testing.T) {
	for _, raw := range []string{
		"'a", `"a`, "$(a", "${a", "(", "a(b", "a\x00", "`a`", "\"`\"", `a\`, "a\\\nb", "\\\x00",
		"${}", "${-}", "${a b}", "${a:}", "${a!}", "${10}", "${#10}", "${a-'}", "${#a-}", "${##a#", "${ a}", "${a }", "${a.b}", "${" + strings.Repeat("n", 33) + "}", "${a-\\\n}", "${!}",
		"$(;)", "$(a", "$(a <<E\nE\n)", "$(fi)", "$(&)", "$(${!})", "$((\\\n))", "$(a <<E)",
	} {
		if got, f := Word(raw); len(got) != 0 || f != (api.Fault{Code: api.ErrSyntax}) {
			t.Errorf("Word(%q) = %s, %v", raw, showWord(got), f)
		}
	}
	if got, f := Word("$(" + strings.Repeat("a", 4097) + ")"); len(got) != 0 || f != (api.Fault{Code: api.ErrLimit}) {
		t.Error(f)
	}
}

// P25.3
func TestDoc(t *testing.T) {
	for text, want := range map[string]string{
		"": "", "a\n": `<"a\n">`, "$a \"b\" 'c'\n": `<$a> <" \"b\" 'c'\n">`, "\\$a\\\\\\`\\\"\\x\n": "<\"$a\\\\`\\\\\\\"\\\\x\\n\">", "a\\\nb": `<"ab">`, "\\\n": "", "$(a)$((1))${b-'c'}": `<$((simple ["a"]))> <$(("1"))> <$b,-,[<"c">]>`, "a\\": `<"a\\">`, "$ (": `<"$ (">`, "{": `<"{">`,
	} {
		if got, f := Doc(text); f != (api.Fault{}) || showWord(got) != want {
			t.Errorf("Doc(%q) = %s, %v; want %s", text, showWord(got), f, want)
		}
	}
	for _, text := range []string{"\x00", "`a`", "\\\\`", "$(a", "${a", "${!}", "$(`)", "${a-'}"} {
		if got, f := Doc(text); len(got) != 0 || f != (api.Fault{Code: api.ErrSyntax}) {
			t.Errorf("Doc(%q) = %s, %v", text, showWord(got), f)
		}
	}
}

// P25.4
func TestParse(t *testing.T) {
	for text, want := range map[string]string{
		"": "", "\n\n": "", " # c\n": "",
		"a": `(simple ["a"])`, "\na b\n\n": `(simple ["a"] ["b"])`, "a;": `(simple ["a"])`, "a;b": `(list (simple ["a"]) (simple ["b"]))`, "a\n\nb;\nc;\n": `(list (simple ["a"]) (simple ["b"]) (simple ["c"]))`,
		"a | b && c": `(and (pipe (simple ["a"]) (simple ["b"])) (simple ["c"]))`, "a && b || c": `(or (and (simple ["a"]) (simple ["b"])) (simple ["c"]))`, "a &&\n\nb": `(and (simple ["a"]) (simple ["b"]))`, "a|\nb|c": `(pipe (simple ["a"]) (simple ["b"]) (simple ["c"]))`, "! a": `(pipe not (simple ["a"]))`, "! a | b": `(pipe not (simple ["a"]) (simple ["b"]))`, "a ! b": `(simple ["a"] ["!"] ["b"])`, "! { a; }": `(pipe not (group (simple ["a"])))`,
		"x=1 y= a z=2": `(simple x=["1"] y=[] ["a"] ["z=2"])`, "x=1": `(simple x=["1"])`, ">a x=1 b": `(simple x=["1"] ["b"] -1>["a"])`, "x=~/a$b": `(simple x=["~/a" $b])`, "1x=2": `(simple ["1x=2"])`, "'x'=1": `(simple [<"x"> "=1"])`, "x=1 if": `(simple x=["1"] ["if"])`, ">f if": `(simple ["if"] -1>["f"])`,
		"a <b >c >>d 2>e 0<&3 >&- <&x": `(simple ["a"] -1<["b"] -1>["c"] -1>>["d"] 2>["e"] 0<&["3"] -1>&["-"] -1<&["x"])`, ">a": `(simple -1>["a"])`, "a >b c": `(simple ["a"] ["c"] -1>["b"])`,
		"cat <<E\n$a\nE\n": `(simple ["cat"] -1<<[<$a> <"\n">])`, "cat <<'E'\n$a\nE\n": `(simple ["cat"] -1<<[<"$a\n">])`, "3<<'E'\nE\n": `(simple 3<<[<"">])`, "cat <<E\nE\n": `(simple ["cat"] -1<<[])`,
		"{ a; }": `(group (simple ["a"]))`, "{ a\n}": `(group (simple ["a"]))`, "{ a;} >x 2>y": `(group (simple ["a"]) -1>["x"] 2>["y"])`, "(a)": `(sub (simple ["a"]))`, "( a; b )": `(sub (list (simple ["a"]) (simple ["b"])))`, "{ (a) }": `(group (sub (simple ["a"])))`, "{ { a; } }": `(group (group (simple ["a"])))`,
		"if a; then b; fi >x": `(if (simple ["a"]) (simple ["b"]) -1>["x"])`, "if a\nthen\nb\nelse c\nfi": `(if (simple ["a"]) (simple ["b"]) (simple ["c"]))`, "if a;b;then c;elif d;then e;elif f;then g;else h;fi": `(if (list (simple ["a"]) (simple ["b"])) (simple ["c"]) (simple ["d"]) (simple ["e"]) (simple ["f"]) (simple ["g"]) (simple ["h"]))`, "if (a) then (b) fi": `(if (sub (simple ["a"])) (sub (simple ["b"])))`,
		"while a; do b; done": `(while (simple ["a"]) (simple ["b"]))`, "until a\ndo b\ndone <x": `(while not (simple ["a"]) (simple ["b"]) -1<["x"])`,
		"for x in a $b; do c; done": `(for name=x in ["a"] [$b] (simple ["c"]))`, "for x in\ndo c; done": `(for name=x in (simple ["c"]))`, "for x\n\nin a\n\ndo c\ndone": `(for name=x in ["a"] (simple ["c"]))`, "for x do c; done": `(for name=x (simple ["c"]))`, "for x; do c; done": `(for name=x (simple ["c"]))`, "for x;\ndo c; done": `(for name=x (simple ["c"]))`, "for x\ndo c; done": `(for name=x (simple ["c"]))`, "for if in do done; do c; done": `(for name=if in ["do"] ["done"] (simple ["c"]))`, "for in in in; do c; done": `(for name=in in ["in"] (simple ["c"]))`,
		"case a in esac": `(case ["a"])`, "case a\nin\nesac": `(case ["a"])`, "case $a in b|c) d;; (e)\n\n f\n;;\n\n*) ;; esac": `(case [$a] item["b"]["c"]{(simple ["d"])} item["e"]{(simple ["f"])} item["*"]{})`, "case in in in) a;; esac": `(case ["in"] item["in"]{(simple ["a"])})`, "case a in (esac) b;; esac >x": `(case ["a"] item["esac"]{(simple ["b"])} -1>["x"])`, "(case a in esac)": `(sub (case ["a"]))`,
		"f() { a; }": `(func name=f (group (simple ["a"])))`, "f ( )\n\n(a) >x": `(func name=f (sub (simple ["a"]) -1>["x"]))`, "f() if a; then b; fi": `(func name=f (if (simple ["a"]) (simple ["b"])))`, "f() { a; } | b": `(pipe (func name=f (group (simple ["a"]))) (simple ["b"]))`,
		"echo if then }": `(simple ["echo"] ["if"] ["then"] ["}"])`, "{a}": `(simple ["{a}"])`, "'if'": `(simple [<"if">])`,
	} {
		got, f := Parse(text)
		if f != (api.Fault{}) || showAll(got) != want || len(got) > 1 || (len(got) == 0) != (want == "") {
			t.Errorf("Parse(%q) = %s, %v; want %s", text, showAll(got), f, want)
		}
	}
}

// P25.4, P25.5
func TestSyntax(t *testing.T) {
	for text, at := range map[string]int{
		";": 0, "a;;": 1, "a;;b": 1, "a &&": 4, "a && ;": 5, "&& a": 0, "a |": 3, "| a": 0, "a ; ;": 4, "a\n;": 2, "!": 1, "! ! a": 2, "!\na": 1, "a || | b": 5, "a & b": 2, "'a": 2,
		")": 0, "a )": 2, "()": 1, "(a": 2, "( ; )": 2, "(a))": 3, "{ }": 2, "{ a }": 5, "{ a;": 4, "}": 0, "{ ;}": 2, "a (": 3, "a b (c)": 4, "f (x)": 3, "f()": 3, "f() a": 4, "f()\n;": 4, "f( ) fi": 5, "if() { a; }": 3, "a-b() { c; }": 3, "x=1 ()": 4,
		"if": 2, "if a": 4, "if a;": 5, "if a; fi": 6, "if ; then": 3, "if a; then fi": 11, "if a; then b": 12, "if a; then b; else fi": 19, "then": 0, "fi": 0, "else": 0, "elif": 0, "do": 0, "done": 0, "in": 0, "esac": 0, "a; fi": 3, "if a; then b; elif c; fi": 22, "if a; then b; fi c": 17,
		"while a; done": 9, "while a; do done": 12, "while do": 6, "until": 5, "for": 3, "for 1": 4, "for a-b": 4, "for x y": 6, "for x in a do b; done": 17, "for x in a; b": 12, "for x\n; do": 6, "for x; in a": 7, "for x;;do": 5, "for x in a 2>b": 11, "for x; do done": 10, "for (": 4,
		"case": 4, "case a": 6, "case a b": 7, "case a in b": 11, "case a in b c": 12, "case a in b) c esac": 19, "case a in b) c; esac": 16, "case a in ) c": 10, "case a in () c": 11, "case a in b|) c": 12, "case a in b) ;; c": 17, "case ; in": 5, "case a in b) &&": 13, "case a in esac) b;; esac": 14,
		"a >": 3, "a > ;": 4, ">\n": 1, "a <<": 4, "a << ;": 5, "12>x": 0, "a 123<b": 2, "a 0>&1 10>c": 7, "a 2>3>b": 4, "a >b >": 6,
		"a ${!}": 2, "a b ${x": 7, "x=${!}": 0, "a >${!}": 3, "cat <<E\n${!}\nE\n": 6, "cat <<E; a\n`\nE\n": 6, "for x in a ${!}; do b; done": 11, "case ${!} in esac": 5, "case a in b|${!}) ;; esac": 12, "a $(b": 5, "a $(;)": 2, "a $(b $(fi))": 2, "a \\": 2, "a b\\\nc": 2,
		"${!} ; )": 0, "a ; ${!} )": 4, "a ; ) ; ${!}": 4, "12>${!}": 0,
	} {
		if got, f := Parse(text); len(got) != 0 || f != (api.Fault{Code: api.ErrSyntax, At: at}) {
			t.Errorf("Parse(%q) = %s, %v; want %d", text, showAll(got), f, at)
		}
	}
}

func repeat(n int, s string) string { return strings.Repeat(s, n) }

func faultAt(code api.Errno, at int) api.Fault { return api.Fault{Code: code, At: at} }

// P25.5
func TestDepth(t *testing.T) {
	for text, want := range map[string]api.Fault{
		repeat(19, "{ ") + "a" + repeat(19, ";}"): {}, repeat(20, "{ ") + "a" + repeat(20, ";}"): faultAt(51, 40), repeat(19, "{ ") + "a;b" + repeat(19, ";}"): faultAt(51, 38), repeat(25, "{ "): faultAt(51, 40), repeat(20, "{ "): faultAt(50, 40), repeat(20, "{ ") + ")": faultAt(50, 40), repeat(20, "{ ") + "12>x": faultAt(51, 40), repeat(20, "{ ") + "${!}": faultAt(51, 40), repeat(19, "{ ") + "${!}": faultAt(50, 38),
		"a" + repeat(19, "&&a"): {}, "a" + repeat(20, "&&a"): faultAt(51, 0), "a;b" + repeat(19, "&&a"): faultAt(51, 2), "{ a;}" + repeat(19, "&&a"): faultAt(51, 2), "${!}" + repeat(20, "&&a"): faultAt(51, 0), "${!};b" + repeat(20, "&&a"): faultAt(50, 0), "a" + repeat(20, "&&a") + ")": faultAt(51, 0), "a" + repeat(18, "&&a") + ")": faultAt(50, 55),
		repeat(18, "{ ") + "f() { a;}" + repeat(18, ";}"): faultAt(51, 42), repeat(17, "{ ") + "f() { a;}" + repeat(17, ";}"): {}, repeat(18, "{ ") + "! a" + repeat(18, ";}"): {}, repeat(19, "{ ") + "! a" + repeat(19, ";}"): faultAt(51, 40), repeat(19, "{ ") + "a|b" + repeat(19, ";}"): faultAt(51, 38),
		repeat(19, "${x-") + "a" + repeat(19, "}"): {}, repeat(20, "${x-") + "a" + repeat(20, "}"): faultAt(51, 0), "b " + repeat(20, "${x-") + repeat(20, "}"): faultAt(51, 2), repeat(19, "{ ") + "a ${b-c}" + repeat(19, ";}"): faultAt(51, 40), repeat(19, "{ ") + "a ${b-}" + repeat(19, ";}"): faultAt(51, 40), repeat(19, "{ ") + "a ${b}${#b}" + repeat(19, ";}"): {}, repeat(19, "{ ") + "a $()" + repeat(19, ";}"): faultAt(51, 40), repeat(18, "{ ") + "a $()" + repeat(18, ";}"): {}, repeat(18, "{ ") + "a $(b)" + repeat(18, ";}"): faultAt(51, 38), repeat(17, "{ ") + "a $(b)" + repeat(17, ";}"): {}, repeat(19, "{ ") + "a $(())" + repeat(19, ";}"): faultAt(51, 40), repeat(19, "{ ") + "a $(&)" + repeat(19, ";}"): faultAt(51, 40), repeat(18, "{ ") + "a $(&)" + repeat(18, ";}"): faultAt(50, 38),
		repeat(9, "$(") + "a" + repeat(9, ")"): {}, repeat(10, "$(") + "a" + repeat(10, ")"): faultAt(51, 0), repeat(10, "$(") + repeat(10, ")"): {}, "a ${!}" + repeat(20, "${x-") + repeat(20, "}"): faultAt(50, 2), "a " + repeat(20, "${x-") + repeat(20, "}") + "${!}": faultAt(51, 2),
		repeat(19, "{ ") + "cat <<E\n${a-b}\nE\n" + repeat(19, "}\n"): faultAt(51, 44),
	} {
		got, f := Parse(text)
		if f != want || (len(got) == 1) != (want == api.Fault{}) {
			t.Errorf("Parse(%q): %v; want %v", text, f, want)
		}
	}
	if _, f := Word(repeat(20, "${x-") + repeat(20, "}")); f != faultAt(51, 0) {
		t.Error(f)
	}
	if _, f := Doc(repeat(19, "${x-") + repeat(19, "}")); f != (api.Fault{}) {
		t.Error(f)
	}
	if _, f := Doc(repeat(20, "${x-") + repeat(20, "}")); f != faultAt(51, 0) {
		t.Error(f)
	}
}

// P25.5
func TestLimits(t *testing.T) {
	for text, want := range map[string]api.Fault{
		repeat(200, "a "): {}, repeat(201, "a "): faultAt(4, 400), "x=1 " + repeat(199, "a ") + ">b": faultAt(4, 402), "x=1 " + repeat(198, "a ") + ">b": {}, repeat(200, "a ") + "${!}": faultAt(4, 400), repeat(200, "a ") + "12>": faultAt(4, 400), repeat(199, "a ") + "${!}": faultAt(50, 398), repeat(200, "a ") + "; )": faultAt(50, 402), repeat(201, "a ") + "; )": faultAt(4, 400), repeat(200, "a ") + ">": faultAt(4, 400),
		"{ a;}" + repeat(200, ">b"): {}, "{ a;}" + repeat(201, ">b"): faultAt(4, 405), "{ a;}" + repeat(200, ">b") + " 2>b": faultAt(4, 406), "{ a;}" + repeat(200, ">b") + " 12>b": faultAt(4, 406),
		"for x in " + repeat(200, "a ") + ";do b;done": {}, "for x in " + repeat(201, "a ") + ";do b;done": faultAt(4, 409), "case a in " + repeat(200, "b);;") + "esac": {}, "case a in " + repeat(201, "b);;") + "esac": faultAt(4, 810), "case a in " + repeat(200, "b);;") + "(c) ;; esac": faultAt(4, 810), "case a in " + repeat(200, "b);;"): faultAt(50, 810), "case a in " + repeat(200, "b);;") + ")": faultAt(50, 810),
		"case a in b" + repeat(199, "|b") + ");; esac": {}, "case a in b" + repeat(200, "|b") + ");; esac": faultAt(4, 409), "x $(" + repeat(201, "a ") + ")": faultAt(4, 2), repeat(300, "a;"): {}, repeat(299, "a|") + "a": {},
		repeat(4096, "\n"): {}, repeat(4097, "\n"): faultAt(4, 4096),
	} {
		if got, f := Parse(text); f != want || f.Code != 0 && len(got) != 0 {
			t.Errorf("Parse(%.40q): %v; want %v", text, f, want)
		}
	}
}

// P25.4
func TestReserved(t *testing.T) {
	for _, s := range strings.Fields("! { } if then elif else fi while until do done for in case esac") {
		if !Reserved(s) {
			t.Error(s)
		}
	}
	for _, s := range []string{"", "If", "echo", "function", "[[", "!!", "(", "'if'", "return"} {
		if Reserved(s) {
			t.Error(s)
		}
	}
}

// P25.5
func TestCount(t *testing.T) {
	for text, want := range map[string]int{
		"": 0, "a": 1, "a;b": 3, "a|b|c": 4, "a && b || c": 5, "! a": 2, "if a; then b; else c; fi": 4, "f() { a; }": 3, "a $(b; c) x$(d)": 5, "x=$(a)": 2, "a >$(b)": 2, "a ${x-$(b)} $(($(c)))": 3, "case $(a) in $(b)) c; d;; e) ;; esac": 6, "for x in $(a); do b; done": 3, "cat <<E\n$(a)\nE\n": 2,
	} {
		l, f := Parse(text)
		if f.Code != 0 || Count(l) != want {
			t.Errorf("Count(%q) = %d, %v; want %d", text, Count(l), f, want)
		}
	}
	if Count(nil) != 0 || Count([]api.Cmd{{}, {Kids: make([]api.Cmd, 3)}}) != 5 {
		t.Error("any commands are counted")
	}
}

// P25.1: many parentheses take no longer.
func TestLongWords(t *testing.T) {
	n := 1 << 20
	if got, f := Word(repeat(n, "(") + repeat(n, ")")); f.Code != 0 || len(got) != 1 || len(got[0].Text) != 2*n {
		t.Error(f)
	}
	if _, f := Word(repeat(1<<16, "'a'b")); f.Code != 0 {
		t.Error(f)
	}
}
