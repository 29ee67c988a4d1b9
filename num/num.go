// Package num is layer 1: integers as big-endian bytes, as decimal text and as hexadecimal text.
package num

import (
	"strconv"

	"turnkey/api"
)

// wide is the number of bytes of the largest integer.
const wide = 8

const digits = "0123456789abcdef"

// Put returns the size least significant bytes of n, most significant byte first.
func Put(n uint64, size int) []byte {
	if size < 1 || size > wide {
		return nil
	}
	var all [wide]byte
	for i := range wide {
		all[wide-1-i] = byte(n >> (8 * i))
	}
	out := make([]byte, size)
	copy(out, all[wide-size:])
	return out
}

// Get returns the integer that 1 to 8 bytes encode, most significant byte first.
func Get(b []byte) (uint64, api.Errno) {
	if len(b) < 1 || len(b) > wide {
		return 0, api.ErrArg
	}
	var n uint64
	for i := range len(b) {
		n = n<<8 | uint64(b[i])
	}
	return n, api.OK
}

// Dec returns n in decimal.
func Dec(n int) string { return strconv.Itoa(n) }

// Parse returns the integer whose Dec is s.
func Parse(s string) (int, bool) {
	n, err := strconv.Atoi(s)
	// Atoi takes more than one text for a number (007, +7); only one of them is its Dec.
	if err != nil || Dec(n) != s {
		return 0, false
	}
	return n, true
}

// Hex returns two hexadecimal digits for each byte.
func Hex(b []byte) string {
	out := make([]byte, 0, 2*len(b))
	for _, c := range b {
		out = append(out, digits[c>>4], digits[c&15])
	}
	return string(out)
}

// Unhex returns the bytes whose Hex is s.
func Unhex(s string) ([]byte, bool) {
	if len(s)%2 != 0 {
		return nil, false
	}
	out := make([]byte, len(s)/2)
	for i := range len(out) {
		high, low := digit(s[2*i]), digit(s[2*i+1])
		if high < 0 || low < 0 {
			return nil, false
		}
		out[i] = byte(high<<4 | low)
	}
	return out, true
}

// digit returns the value of a hexadecimal digit, or -1: capital letters are not among those that Hex writes.
func digit(c byte) int {
	switch {
	case c >= '0' && c <= '9':
		return int(c - '0')
	case c >= 'a' && c <= 'f':
		return int(c-'a') + 10
	}
	return -1
}

// Wrap truncates n to a signed integer of 1 to 64 bits in two's complement.
func Wrap(n int, bits int) int {
	if bits < 1 || bits > 64 {
		return 0
	}
	// The bits above are shifted out, and the sign bit is shifted in for them.
	return int(int64(n) << (64 - bits) >> (64 - bits))
}
