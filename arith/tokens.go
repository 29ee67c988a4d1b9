package arith

import "strings"

const (
	maxText = 1000
	blanks  = " \t\n"
)

// operators holds all operators, the longer ones first.
var operators = [...]string{
	"<<", ">>", "<=", ">=", "==", "!=", "&&", "||", "+", "-", "*", "/", "%", "<", ">", "&", "^", "|", "!", "~", "?", ":", "(", ")",
}

// Tokens splits an expression into tokens.
func Tokens(text string) ([]string, bool) {
	if len(text) > maxText {
		return nil, false
	}
	var out []string
next:
	text = strings.TrimLeft(text, blanks)
	if text == "" {
		return out, true
	}
	size := token(text)
	if size == 0 {
		return nil, false
	}
	out = append(out, text[:size])
	text = text[size:]
	goto next
}

// token returns the number of bytes of the token at the beginning of a text.
func token(text string) int {
	switch {
	case strings.HasPrefix(text, "0x") && len(text) > 2 && digit(text[2]) >= 0:
		return 2 + run(text[2:], func(c byte) bool { return digit(c) >= 0 })
	case isDigit(text[0]):
		return run(text, isDigit)
	case isLetter(text[0]):
		return run(text, func(c byte) bool { return isDigit(c) || isLetter(c) })
	}
	for _, op := range operators {
		if strings.HasPrefix(text, op) {
			return len(op)
		}
	}
	return 0
}

// run returns how many bytes at the beginning of a text are of a kind.
func run(text string, kind func(byte) bool) int {
	n := 0
	for n < len(text) && kind(text[n]) {
		n++
	}
	return n
}

func isDigit(c byte) bool { return c >= '0' && c <= '9' }

func isLetter(c byte) bool { return c >= 'a' && c <= 'z' || c >= 'A' && c <= 'Z' || c == '_' }

// digit returns the value of a hexadecimal digit, or -1.
func digit(c byte) int {
	switch {
	case isDigit(c):
		return int(c - '0')
	case c >= 'a' && c <= 'f':
		return int(c-'a') + 10
	case c >= 'A' && c <= 'F':
		return int(c-'A') + 10
	}
	return -1
}
