package print

import (
	"reflect"
	"strings"
	"testing"

	"turnkey/api"
	"turnkey/tree"
)

func parsed(t *testing.T, text string) []api.Cmd {
	t.Helper()
	l, f := tree.Parse(text)
	if f.Code != api.OK {
		t.Fatalf("%q: %v", text, f)
	}
	return l
}

// P26.1
func TestQuote(t *testing.T) {
	for s, want := range map[string]string{"": "''", "a b": "'a b'", "it's": `'it'\''s'`, `\"$`: `'\"$'`, "\n": "'\n'", "''": `''\'''\'''`} {
		if got := Quote(s); got != want {
			t.Errorf("Quote(%q) = %q", s, got)
		}
	}
}

// P26.1
func TestWord(t *testing.T) {
	for raw, want := range map[string]string{
		"": "", "a": "a", `a\ b`: "a' 'b", `"a"'b'`: "'ab'", "''": "''", "$a": "${a}", `"$a"`: `"${a}"`, "${a}b": "${a}b", "${#a}": "${#a}", `"${#}"`: `"${#}"`, "${a:-b 'c'}": "${a:-b 'c'}", `"${a%%*}"`: `"${a%%*}"`, "$((1+$a))": "$((1+${a}))", `"$(( 1 ))"`: `"$(( 1 ))"`,
		"$(a b)": "$( a b\n)", `"$(a;b)"`: "\"$( a\nb\n)\"", "$()": "$( )", "$-": "$-", "$(a $(b))": "$( a $( b\n)\n)", "~/x*": "~/x*",
	} {
		w, f := tree.Word(raw)
		if got := Word(w); f.Code != 0 || got != want {
			t.Errorf("Word(%q) = %q; want %q", raw, got, want)
		}
	}
}

// P26.2
func TestPrint(t *testing.T) {
	for text, want := range map[string]string{
		"": "", "a|b;c>x": "a | b\n> x c\n", "a  b;": "a b\n", "a >b x=1 c 2>&1": "> b 2>& 1 a x=1 c\n", "x=1 y=$a z >f": "x=1 y=${a} > f z\n", ">f": "> f\n", "x=": "x=\n",
		"! a | b": "! a | b\n", "a && b || c": "a && b || c\n", "{ a; b; } >x 2>>y": "{ a\nb\n} > x 2>> y\n", "(a)<&-": "( a\n) <& -\n",
		"if a; then b; fi": "if a\nthen b\nfi\n", "if a; then b; elif c; then d; else e; fi >x": "if a\nthen b\nelif c\nthen d\nelse e\nfi > x\n", "while a; do b; done": "while a\ndo b\ndone\n", "until a; do b;c; done <x": "until a\ndo b\nc\ndone < x\n",
		"for x; do a; done": "for x\ndo a\ndone\n", "for x in; do a; done": "for x in\ndo a\ndone\n", "for x in a $b; do c; done": "for x in a ${b}\ndo c\ndone\n",
		"case a in esac": "case a in\nesac\n", "case $a in b|'c') d;; *) ;; esac >x": "case ${a} in\n(b | 'c') d\n;;\n(*) \n;;\nesac > x\n", "f() { a; }": "f() { a\n}\n", "f() (a) >x": "f() ( a\n) > x\n",
	} {
		if got := Print(parsed(t, text)); got != want {
			t.Errorf("Print(%q) = %q; want %q", text, got, want)
		}
	}
}

// P26.3
func TestDocuments(t *testing.T) {
	for text, want := range map[string]string{
		"cat <<X\na\nX\n":                    "<<'E' cat\na\nE\n",
		"cat <<'X'\n$a\\\nX\n":               "<<'E' cat\n$a\\\nE\n",
		"cat <<X\nX\n":                       "<<E cat\nE\n",
		"cat <<'X'\nX\n":                     "<<'E' cat\nE\n",
		"cat 3<<X\n$a\\$\\\\\\`'\"\nX\n":     "3<<E cat\n${a}\\$\\\\\\`'\"\nE\n",
		"cat <<X\n$a\\\nX\n":                 "<<E cat\n${a}\\\nE\n",
		"cat <<X\na\\\nX\n":                  "<<E cat\na\\\nE\n",
		"cat <<X\nE\nEEE\nX\n":               "<<'EE' cat\nE\nEEE\nEE\n",
		"cat <<X\nE\nEE\n $a\nX\n":           "<<EEE cat\nE\nEE\n ${a}\nEEE\n",
		"cat <<X\n$(E;b)\nX\n":               "<<E cat\n$( E\nb\n)\nE\n",
		"cat <<X\n$(b;E)\nX\n":               "<<EE cat\n$( b\nE\n)\nEE\n",
		"a <<X | b <<Y; c\n1\nX\n2\nY\n":     "<<'E' a | <<'E' b\n1\nE\n2\nE\nc\n",
		"{ a <<X; } <<Y\n1\nX\n2\nY\n":       "{ <<'E' a\n1\nE\n} <<'E'\n2\nE\n",
		"for x in a; do b; done <<X\n1\nX\n": "for x in a\ndo b\ndone <<'E'\n1\nE\n",
		"if a <<X; then b; fi\n1\nX\n":       "if <<'E' a\n1\nE\nthen b\nfi\n",
	} {
		if got := Print(parsed(t, text)); got != want {
			t.Errorf("Print(%q) = %q; want %q", text, got, want)
		}
	}
}

// P26.4
func TestDigest(t *testing.T) {
	if Digest(nil) != 0 {
		t.Error("nothing")
	}
	if got := Digest(parsed(t, "ab")); got != 'a'+2*'b'+3*'\n' {
		t.Error(got)
	}
	long := parsed(t, strings.Repeat("abcdefg ", 150))
	want := 0
	for i, c := range []byte(Print(long)) {
		want += int(c) * (i + 1)
	}
	if got := Digest(long); got != want%1000003 || want < 1000003 {
		t.Error(got, want)
	}
}

// R1: what Parse does not return is printed somehow.
func TestAnyCommands(t *testing.T) {
	for kind := -1; kind < 14; kind++ {
		for kids := range 4 {
			c := api.Cmd{Kind: kind, Kids: make([]api.Cmd, kids), Items: make([]api.Item, kids), Redirs: []api.Redir{{}, {Op: "<<", Fd: -9}}, Words: [][]api.Part{nil, {{Kind: 9}}}}
			Digest([]api.Cmd{c, c})
		}
	}
}

// P26.5
func TestRoundTrip(t *testing.T) {
	for _, text := range []string{
		"a b 'c d' \"$e\" f\\ g", "x=1 y='2' a >b 2>>c <&3", "! a | b && c || d; e\nf", "{ (a; b) | c; } >x", "if a; then b; elif c; then d; else e; fi 2>x", "while a && b; do c; done | d", "until a; do b; done", "for x in a $b 'c'; do d; e; done", "for x do a; done",
		"case $x in a|'b*'|\"$c\"*) d;; (e) ;; esac", "f() { a \"$@\"; }; f() (b)", "a ${b:-$(c \"${d%'}'}\")}x$((1+(2)))", "a <<X <<'Y'\n$b \\$c `x`\\\nd\nX\n'E'\nY\nz", "a \"$(b; c | d)\" $(e)", "a '' \"\" ''\"$x\"''", "a $ $- \"$\" '$x' \\$x", "x=~ y='~' ~ '~'/a", "a 'it'\\''s' \"\\\"\\\\\\$\"", "cat <<X; b\n$((1+2))${a#\\#}\nX\n", "if a; then cat <<X; fi\n1\nX\n", "a ${x-\"b c\"} ${#x} ${##} \"${@}\"", "echo \\# '#' a#b", "a 'new\nline'",
	} {
		text = strings.ReplaceAll(text, "`x`", "\\`x\\`")
		l := parsed(t, text)
		back, f := tree.Parse(Print(l))
		if f.Code != api.OK || !reflect.DeepEqual(back, l) {
			t.Errorf("%q is printed as %q: %v", text, Print(l), f)
		}
		if Print(back) != Print(l) || Digest(back) != Digest(l) {
			t.Errorf("%q", text)
		}
	}
}
