package lex

import "strings"

// skip returns the offset just past the element that begins at an offset of the text, or where the fault is. It holds the closing bytes that are still to come, the innermost one last, so that deep nesting takes no deep recursion.
func skip(text string, at int) (int, bool) {
	var closing []byte
	for {
		if at >= len(text) {
			return len(text), false
		}
		next, open, ok := step(text, at, closing)
		if !ok {
			return next, false
		}
		switch {
		case open != 0:
			closing = append(closing, open)
		case len(closing) > 0 && text[at] == closing[len(closing)-1]:
			closing = closing[:len(closing)-1]
		}
		at = next
		if len(closing) == 0 {
			return at, true
		}
	}
}

// step passes over the byte at an offset, over all of an escaped byte, or over all of what is in single quotes. It returns where it goes on and which closing byte is to come for what begins here, or where the fault is.
func step(text string, at int, closing []byte) (int, byte, bool) {
	inner := byte(0)
	if len(closing) > 0 {
		inner = closing[len(closing)-1]
	}
	rest := text[at:]
	switch {
	case rest[0] == 0 || rest[0] == '`':
		return at, 0, false
	case rest[0] == '\\':
		if len(rest) > 1 && rest[1] == 0 {
			return at + 1, 0, false
		}
		return min(at+2, len(text)), 0, true
	case rest[0] == inner:
		return at + 1, 0, true
	case strings.HasPrefix(rest, "$("):
		return at + 2, ')', true
	case strings.HasPrefix(rest, "${"):
		return at + 2, '}', true
	case inner == '"':
		return at + 1, 0, true
	case rest[0] == '"':
		return at + 1, '"', true
	case rest[0] == '(':
		return at + 1, ')', true
	case rest[0] == '\'':
		return single(text, at+1)
	}
	return at + 1, 0, true
}

// single passes over what is in single quotes.
func single(text string, at int) (int, byte, bool) {
	i := strings.IndexAny(text[at:], "'\x00")
	if i < 0 {
		return len(text), 0, false
	}
	if text[at+i] == 0 {
		return at + i, 0, false
	}
	return at + i + 1, 0, true
}
