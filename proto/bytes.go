package proto

import (
	"turnkey/clone"
	"turnkey/num"
)

// integer returns the bytes of an integer.
func integer(n int) []byte { return num.Put(uint64(n), integerBytes) }

// text returns the bytes of a string.
func text(s string) []byte { return append(num.Put(uint64(len(s)), lengthBytes), s...) }

// list returns the bytes of a list.
func list[T any](l []T, item func(T) []byte) []byte {
	out := num.Put(uint64(len(l)), countBytes)
	for _, x := range l {
		out = append(out, item(x)...)
	}
	return out
}

// output is what was encoded so far.
type output struct{ bytes []byte }

func (out *output) add(b []byte) { out.bytes = append(out.bytes, b...) }

// input is what is left of a message that is being decoded; short once more was read than there was.
type input struct {
	rest  []byte
	short bool
}

// field is a field and what writes or reads it.
type field struct {
	which int
	code  func()
}

// each writes or reads the fields that are used, in the order in which they are listed.
func each(used int, fields []field) {
	for _, f := range fields {
		if used&f.which != 0 {
			f.code()
		}
	}
}

// done reports whether everything was read and nothing was missing.
func (in *input) done() bool { return !in.short && len(in.rest) == 0 }

// take removes n bytes from the front.
func (in *input) take(n int) []byte {
	if in.short || len(in.rest) < n {
		in.short = true
		return nil
	}
	out := in.rest[:n]
	in.rest = in.rest[n:]
	return out
}

// number returns the integer of n bytes, without a sign.
func (in *input) number(n int) int {
	v, _ := num.Get(in.take(n))
	return int(v)
}

func (in *input) integer() int { return num.Wrap(in.number(integerBytes), 8*integerBytes) }

func (in *input) text() string { return string(in.take(in.number(lengthBytes))) }

func (in *input) data() []byte { return clone.List(in.take(in.number(lengthBytes))) }

// items reads a list; a list whose elements are missing ends early, since nothing but the shortage counts then.
func items[T any](in *input, item func() T) []T {
	var out []T
	for range in.number(countBytes) {
		out = append(out, item())
		if in.short {
			return nil
		}
	}
	return out
}
