package sha

import (
	"bytes"
	"crypto/sha256"
	"encoding/hex"
	"slices"
	"testing"

	"turnkey/api"
)

func filled(n int) []byte {
	b := make([]byte, n)
	for i := range b {
		b[i] = byte(i * 7)
	}
	return b
}

// P2.1
func TestStart(t *testing.T) {
	want := []uint32{0x6a09e667, 0xbb67ae85, 0x3c6ef372, 0xa54ff53a, 0x510e527f, 0x9b05688c, 0x1f83d9ab, 0x5be0cd19}
	got := Start()
	if !slices.Equal(got, want) {
		t.Fatal(got)
	}
	got[0] = 1
	if !slices.Equal(Start(), want) {
		t.Fatal("a result is not the caller's own")
	}
}

// P2.2
func TestPad(t *testing.T) {
	for n := range 200 {
		b := filled(n)
		p := Pad(b)
		if len(p)%64 != 0 || len(p) < n+9 || len(p) >= n+9+64 {
			t.Fatalf("%d bytes are padded to %d", n, len(p))
		}
		if !bytes.Equal(p[:n], b) || p[n] != 0x80 {
			t.Fatalf("%d: %x", n, p)
		}
		for _, z := range p[n+1 : len(p)-8] {
			if z != 0 {
				t.Fatalf("%d: %x", n, p)
			}
		}
		bits := 0
		for _, c := range p[len(p)-8:] {
			bits = bits<<8 | int(c)
		}
		if bits != 8*n {
			t.Fatalf("%d: %d bits", n, bits)
		}
	}
}

// P2.3
func TestBlock(t *testing.T) {
	state := Start()
	out, e := Block(state, Pad([]byte("abc")))
	want := []uint32{0xba7816bf, 0x8f01cfea, 0x414140de, 0x5dae2223, 0xb00361a3, 0x96177a9c, 0xb410ff61, 0xf20015ad}
	if e != api.OK || !slices.Equal(out, want) {
		t.Fatalf("%x %d", out, e)
	}
	if !slices.Equal(state, Start()) {
		t.Fatal("the argument was modified")
	}
	for _, c := range []struct {
		state []uint32
		block []byte
	}{
		{nil, make([]byte, 64)}, {Start()[:7], make([]byte, 64)}, {make([]uint32, 9), make([]byte, 64)},
		{Start(), nil}, {Start(), make([]byte, 63)}, {Start(), make([]byte, 65)}, {Start(), make([]byte, 128)},
	} {
		if out, e := Block(c.state, c.block); len(out) != 0 || e != api.ErrArg {
			t.Errorf("%d words, %d bytes: %v, %d", len(c.state), len(c.block), out, e)
		}
	}
}

// P2.4
func TestSum(t *testing.T) {
	if hex.EncodeToString(Sum([]byte("abc"))) != "ba7816bf8f01cfea414140de5dae2223b00361a396177a9cb410ff61f20015ad" {
		t.Fatalf("%x", Sum([]byte("abc")))
	}
	for n := range 300 {
		want := sha256.Sum256(filled(n))
		if !bytes.Equal(Sum(filled(n)), want[:]) {
			t.Fatalf("%d bytes", n)
		}
	}
}

// P2.4
func TestChain(t *testing.T) {
	if !bytes.Equal(Chain([]byte("ab"), []byte("c")), Sum([]byte("abc"))) || !bytes.Equal(Chain(nil, nil), Sum(nil)) {
		t.Fatal("a chain is the sum of both")
	}
	before := append(make([]byte, 0, 9), "ab"...)
	Chain(before, []byte("c"))
	if before[:3][2] != 0 {
		t.Fatal("written behind the argument")
	}
}
