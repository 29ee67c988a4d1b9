package lex

import (
	"fmt"
	"strings"
	"testing"

	"turnkey/api"
)

// shown writes tokens down: a letter for the kind, the offset, the text, and the document.
func shown(l []api.Tok) string {
	var out []string
	for _, t := range l {
		s := fmt.Sprintf("%c%d%q", " WONLE"[t.Kind], t.At, t.Text)
		if t.Doc != "" || t.Quoted {
			s += fmt.Sprintf("%q%v", t.Doc, t.Quoted)
		}
		out = append(out, s)
	}
	return strings.Join(out, " ")
}

// P24.1
func TestScan(t *testing.T) {
	for text, want := range map[string]string{
		"":                   `E0""`,
		" \t":                `E2""`,
		"\\\n ":              `E3""`,
		"#c":                 `E2""`,
		"a>b":                `W0"a" O1">" W2"b" E3""`,
		"2>b":                `N0"2" O1">" W2"b" E3""`,
		"a2>b":               `W0"a2" O2">" W3"b" E4""`,
		"123<b":              `N0"123" O3"<" W4"b" E5""`,
		"1234<b":             `W0"1234" O4"<" W5"b" E6""`,
		"12 <b":              `W0"12" O3"<" W4"b" E5""`,
		"12":                 `W0"12" E2""`,
		"2>&1":               `N0"2" O1">&" W3"1" E4""`,
		"2>&1>":              `N0"2" O1">&" N3"1" O4">" E5""`,
		"a&&b||c;;d;e":       `W0"a" O1"&&" W3"b" O4"||" W6"c" O7";;" W9"d" O10";" W11"e" E12""`,
		";;;":                `O0";;" O2";" E3""`,
		"|||":                `O0"||" O2"|" E3""`,
		"<&>>()<":            `O0"<&" O2">>" O4"(" O5")" O6"<" E7""`,
		"<>":                 `O0"<" O1">" E2""`,
		"a\nb":               `W0"a" L1"\n" W2"b" E3""`,
		"a #b\nc#d":          `W0"a" L4"\n" W5"c#d" E8""`,
		"a;#b&\x00`\nc":      `W0"a" O1";" L7"\n" W8"c" E9""`,
		"a\\\nb":             `W0"a\\\nb" E4""`,
		"a \\\n b":           `W0"a" W5"b" E6""`,
		"\\\n#c":             `E4""`,
		"f()":                `W0"f" O1"(" O2")" E3""`,
		"{ a;}":              `W0"{" W2"a" O3";" W4"}" E5""`,
		"'a b'c\"d e\"f\\ g": `W0"'a b'c\"d e\"f\\ g" E15""`,
		"$(a b;c)d e":        `W0"$(a b;c)d" W10"e" E11""`,
		"${a b}$((1 + 2))":   `W0"${a b}$((1 + 2))" E16""`,
		"a$ b$":              `W0"a$" W3"b$" E5""`,
		"\\":                 `W0"\\" E1""`,
		"!a":                 `W0"!a" E2""`,
		"\r\xff":             `W0"\r\xff" E2""`,
	} {
		l, f := Scan(text)
		if f != (api.Fault{}) || shown(l) != want {
			t.Errorf("Scan(%q) = %s, %v; want %s", text, shown(l), f, want)
		}
	}
}

// P24.1, P24.2, P24.3
func TestScanFaults(t *testing.T) {
	for text, at := range map[string]int{
		"a & b": 2, "&": 0, "a&&&b": 3, "<&&": 2, "a\x00": 1, "a \x00": 2, "\x00": 0, "a `b`": 2, "a`": 1, "\"`\"": 1, "$(`": 2, "a\\\x00": 2, "'a\x00'": 2,
		"'a": 2, "a 'b": 4, "\"a": 2, "$(a": 3, "${a": 3, "a$(b'": 5, "\"$(\"": 4, "a\n\"": 3, "$(()": 4, "${x:-(}": 7, "$(\\)": 4,
		"cat <<E": 7, "cat <<E\n": 8, "cat <<E\nE x\n": 12, "cat <<''\n": 9, "cat <<''\na\n": 11, "<<A <<B\nA\n": 10, "<<A\n\x00": 5, "<<A & b": 4,
	} {
		if l, f := Scan(text); len(l) != 0 || f != (api.Fault{Code: api.ErrSyntax, At: at}) {
			t.Errorf("Scan(%q) = %s, %v; want %d", text, shown(l), f, at)
		}
	}
	most := strings.Repeat("a", 4096)
	if l, f := Scan(most); len(l) != 2 || f != (api.Fault{}) {
		t.Error(f)
	}
	if l, f := Scan(most[1:] + "\x00\x00"); len(l) != 0 || f != (api.Fault{Code: api.ErrLimit, At: 4096}) {
		t.Error(f)
	}
}

// P24.3
func TestDocuments(t *testing.T) {
	for text, want := range map[string]string{
		"cat <<E\na\nb\nE\nc":          `W0"cat" O4"<<" W6"E""a\nb\n"false L7"\n" W14"c" E15""`,
		"cat <<E\nE":                   `W0"cat" O4"<<" W6"E" L7"\n" E9""`,
		"cat <<E\na\nE":                `W0"cat" O4"<<" W6"E""a\n"false L7"\n" E11""`,
		"cat << 'E' #c\na&`\x00\nE\n":  `W0"cat" O4"<<" W7"'E'""a&` + "`" + `\x00\n"true L13"\n" E21""`,
		"<<A <<B; x\n1\nA\n2\nB\n":     `O0"<<" W2"A""1\n"false O4"<<" W6"B""2\n"false O7";" W9"x" L10"\n" E19""`,
		"<<A && <<\"B\"\nB\nA\nA\nB\n": `O0"<<" W2"A""B\n"false O4"&&" O7"<<" W9"\"B\"""A\n"true L12"\n" E21""`,
		"<<''\n\nx":                    `O0"<<" W2"''"""true L4"\n" W6"x" E7""`,
		"<<E\n E\nE \nEE\nE\n":         `O0"<<" W2"E"" E\nE \nEE\n"false L3"\n" E15""`,
		"<<a\\ b\na\na b\n":            `O0"<<" W2"a\\ b""a\n"true L6"\n" E13""`,
		"<<E 'a\nb'\nE\n":              `O0"<<" W2"E" W4"'a\nb'" L9"\n" E12""`,
		"<<\nE":                        `O0"<<" L2"\n" W3"E" E4""`,
		"<<1<E\n":                      `O0"<<" N2"1" O3"<" W4"E" L5"\n" E6""`,
		"<<#\n":                        `O0"<<" L3"\n" E4""`,
		"<< \\\n E\nE\n":               `O0"<<" W6"E" L7"\n" E10""`,
		"<<E;'E'\nE\n":                 `O0"<<" W2"E" O3";" W4"'E'" L7"\n" E10""`,
	} {
		l, f := Scan(text)
		if f != (api.Fault{}) || shown(l) != want {
			t.Errorf("Scan(%q) = %s, %v; want %s", text, shown(l), f, want)
		}
	}
}

// P24.2
func TestSkip(t *testing.T) {
	for _, c := range []struct {
		text string
		at   int
		end  int
	}{
		{"ab", 0, 1}, {"ab", 1, 2}, {`\ab`, 0, 2}, {`\`, 0, 1}, {"\\`a", 0, 2}, {"\\\n", 0, 2}, {"'a\\'b", 0, 4}, {"'`'", 0, 3}, {"''", 0, 2},
		{`"a\"b"c`, 0, 6}, {`"$(")")"x`, 0, 8}, {`"${"}"}"x`, 0, 8}, {`"('"x`, 0, 4}, {`"$x"`, 0, 4}, {"\"\\`\"", 0, 4},
		{"$(a)b", 0, 4}, {"$((1))", 0, 6}, {"$(a')'b)c", 0, 8}, {`$(a")"b)c`, 0, 8}, {`$(\))`, 0, 5}, {"$(a(b)c)d", 0, 8}, {"$(${)})d", 0, 7}, {"$(}{)", 0, 5}, {"(a)b", 0, 3}, {"(())", 0, 4}, {"((", 0, 0},
		{"${a}b", 0, 4}, {"${a'}'}b", 0, 7}, {"${a${b}}c", 0, 8}, {"${a(})}b", 0, 7}, {"${)}", 0, 4}, {"$a", 0, 1}, {"$", 0, 1}, {")", 0, 1}, {"}", 0, 1}, {"{", 0, 1}, {" ", 0, 1}, {"&", 0, 1}, {"#", 0, 1},
		{"x'y'", 1, 4}, {"'x'", 2, 0}, {"", 0, 0}, {"a", 1, 0}, {"a", -1, 0}, {"a", 9, 0}, {"a\x00", 1, 0}, {"`", 0, 0}, {"\\\x00", 0, 0}, {"'\x00'", 0, 0}, {"'a", 0, 0}, {`"a`, 0, 0}, {`"a\"`, 0, 0}, {"\"`\"", 0, 0}, {"$(a", 0, 0}, {"$(`)", 0, 0}, {"${a", 0, 0}, {"${\x00}", 0, 0}, {"(a", 0, 0}, {"$(\\", 0, 0}, {"$('`')", 0, 6},
	} {
		end, ok := Skip(c.text, c.at)
		if ok != (c.end > 0) || ok && end != c.end {
			t.Errorf("Skip(%q, %d) = %d, %v; want %d", c.text, c.at, end, ok, c.end)
		}
	}
	deep := strings.Repeat("$(", 1<<20)
	if _, ok := Skip(deep, 0); ok {
		t.Error("deep")
	}
	if end, ok := Skip(deep+strings.Repeat(")", 1<<20), 0); !ok || end != 3<<20 {
		t.Error("deep", end)
	}
}

// P24.3
func TestBare(t *testing.T) {
	for word, want := range map[string]string{"abc": "abc", "": "", "$a": "$a"} {
		if got, quoted := Bare(word); got != want || quoted {
			t.Errorf("Bare(%q) = %q, %v", word, got, quoted)
		}
	}
	for word, want := range map[string]string{"'a b'": "a b", `"a"b`: "ab", `\a`: "a", `a\\b`: `a\b`, `\'`: "'", `''`: "", `a\`: "a", `'a\b'`: "ab", `\"'`: `"`} {
		if got, quoted := Bare(word); got != want || !quoted {
			t.Errorf("Bare(%q) = %q, %v", word, got, quoted)
		}
	}
}

// P24.4
func TestName(t *testing.T) {
	for s, want := range map[string]bool{
		"a": true, "_": true, "A9_z": true, "": false, "9": false, "9a": false, "a-": false, "a b": false, "\xc3\xa9": false, "a\xff": false, "a\x00": false, strings.Repeat("n", 32): true, strings.Repeat("n", 33): false,
	} {
		if Name(s) != want {
			t.Errorf("Name(%q) = %v", s, !want)
		}
	}
}

// P24.5
func TestOffsets(t *testing.T) {
	for _, text := range []string{"if a; then\n b >c # d\nfi", "cat <<E | x\n$a\nE\n\n y", "a \\\n b 'c\nd'"} {
		l, f := Scan(text)
		if f != (api.Fault{}) {
			t.Fatal(f)
		}
		end := 0
		for i, tok := range l {
			if tok.At < end || i > 0 && tok.At <= l[i-1].At || tok.Kind != api.TokEnd && text[tok.At:tok.At+len(tok.Text)] != tok.Text {
				t.Errorf("%q: %s", text, shown(l))
			}
			between := text[end:tok.At]
			if i > 0 && l[i-1].Kind == api.TokLine {
				between = strings.TrimPrefix(between, "$a\nE\n")
			}
			between, _, _ = strings.Cut(strings.ReplaceAll(between, "\\\n", ""), "#")
			if strings.Trim(between, " \t") != "" {
				t.Errorf("%q before %q", between, tok.Text)
			}
			end = tok.At + len(tok.Text)
		}
	}
}
