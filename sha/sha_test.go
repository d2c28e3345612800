package sha

import (
	"bytes"
	"crypto/sha256"
	"encoding/hex"
	"math"
	"math/big"
	"testing"
)

// sample is bytes of all values, that do not repeat with a short period.
func sample(n int) []byte {
	b := make([]byte, n)
	for i := range b {
		b[i] = byte(i*i*7 + i*131 + i>>3)
	}
	return b
}

// library is the digest of b by the library.
func library(b []byte) string {
	d := sha256.Sum256(b)
	return string(d[:])
}

// root returns the first 32 bits of the fractional part of p's root of a degree.
func root(p int64, degree int64) uint32 {
	// The whole number r with r^degree <= p*2^(32*degree) < (r+1)^degree, found bit by bit.
	limit := new(big.Int).Lsh(big.NewInt(p), uint(32*degree))
	r := new(big.Int)
	for i := 40; i >= 0; i-- {
		r.SetBit(r, i, 1)
		if new(big.Int).Exp(r, big.NewInt(degree), nil).Cmp(limit) > 0 {
			r.SetBit(r, i, 0)
		}
	}
	return uint32(r.Uint64())
}

// P3.1: the constants are what the definition says.
func TestConstants(t *testing.T) {
	var primes []int64
	for p := int64(2); len(primes) < 64; p++ {
		if big.NewInt(p).ProbablyPrime(10) {
			primes = append(primes, p)
		}
	}
	for i, n := range rounds {
		if want := root(primes[i], 3); n != want {
			t.Errorf("round %d: %#x, want %#x", i, n, want)
		}
	}
	for i, n := range start() {
		if want := root(primes[i], 2); n != want {
			t.Errorf("first state %d: %#x, want %#x", i, n, want)
		}
	}
}

// P3.1: digests that are known.
func TestSumKnown(t *testing.T) {
	for _, c := range []struct{ b, want string }{
		{"", "e3b0c44298fc1c149afbf4c8996fb92427ae41e4649b934ca495991b7852b855"},
		{"abc", "ba7816bf8f01cfea414140de5dae2223b00361a396177a9cb410ff61f20015ad"},
		{"abcdbcdecdefdefgefghfghighijhijkijkljklmklmnlmnomnopnopq", "248d6a61d20638b8e5c026930c3e6039a33ce45964ff2167f6ecedd419db06c1"},
	} {
		if d := hex.EncodeToString([]byte(Sum([]byte(c.b)))); d != c.want {
			t.Errorf("Sum(%q) = %s", c.b, d)
		}
	}
	if Sum(nil) != Sum([]byte{}) || len(Sum(nil)) != 32 {
		t.Errorf("Sum(nil) = %x", Sum(nil))
	}
}

// P3.1: all lengths up to some blocks, so that the padding has each of its lengths.
func TestSumLengths(t *testing.T) {
	b := sample(330)
	for n := range len(b) + 1 {
		if d := Sum(b[:n]); d != library(b[:n]) {
			t.Errorf("Sum of %d bytes = %x", n, d)
		}
	}
	if !bytes.Equal(b, sample(330)) {
		t.Error("the argument was changed")
	}
}

// P3.1: the number of bits needs more than two bytes.
func TestSumLong(t *testing.T) {
	b := bytes.Repeat([]byte{'a'}, 1000000)
	if d := Sum(b); d != library(b) {
		t.Errorf("Sum = %x", d)
	}
	for _, count := range []uint64{0, 1, 55, 56, 63, 64, 1 << 29, 1<<40 + 5, math.MaxUint64 >> 3} {
		p := padding(count)
		whole := new(big.Int).Add(new(big.Int).SetUint64(count), big.NewInt(int64(len(p))))
		bits := new(big.Int).SetBytes(p[len(p)-8:])
		if whole.Mod(whole, big.NewInt(64)).Sign() != 0 || bits.Cmp(new(big.Int).Mul(new(big.Int).SetUint64(count), big.NewInt(8))) != 0 || len(p) > 72 || p[0] != 0x80 {
			t.Errorf("padding behind %d bytes: %x", count, p)
		}
	}
}

// P3.1 and P3.2: what is written in parts, with sums taken between.
func TestHash(t *testing.T) {
	b := sample(500)
	for _, size := range []int{1, 2, 3, 7, 31, 32, 33, 55, 56, 63, 64, 65, 127, 128, 129, 200, 499, 500} {
		h := New()
		for at := 0; at < len(b); at += size {
			h.Write(b[at:min(at+size, len(b))])
			n := min(at+size, len(b))
			if h.Len() != uint64(n) {
				t.Errorf("parts of %d: Len() = %d, want %d", size, h.Len(), n)
			}
			for range 2 {
				if d := h.Sum(); d != library(b[:n]) {
					t.Errorf("parts of %d: Sum behind %d = %x", size, n, d)
				}
			}
			h.Write(nil)
			h.Write([]byte{})
		}
	}
}

// P3.2: each division into three parts.
func TestDivision(t *testing.T) {
	b := sample(130)
	want := Sum(b)
	for i := 0; i <= len(b); i++ {
		for j := i; j <= len(b); j++ {
			h := New()
			h.Write(b[:i])
			h.Write(b[i:j])
			h.Write(b[j:])
			if h.Sum() != want || h.Len() != 130 {
				t.Fatalf("divided at %d and %d: %x", i, j, h.Sum())
			}
		}
	}
}

// P3.1: a hash to which nothing has been written.
func TestHashOfNothing(t *testing.T) {
	for what, h := range map[string]*Hash{"new": New(), "zero": {}} {
		if h.Sum() != library(nil) || h.Len() != 0 {
			t.Errorf("%s: %x %d", what, h.Sum(), h.Len())
		}
		h.Write([]byte("abc"))
		if h.Sum() != library([]byte("abc")) || h.Len() != 3 {
			t.Errorf("%s, written to: %x %d", what, h.Sum(), h.Len())
		}
	}
}

// P3.1: a nil hash.
func TestNilHash(t *testing.T) {
	var h *Hash
	h.Write([]byte("abc"))
	h.Write(nil)
	if h.Sum() != "" || h.Len() != 0 {
		t.Errorf("%x %d", h.Sum(), h.Len())
	}
}

// P3.1 and the general rule 5: a hash keeps nothing of its argument; two hashes do not touch each other.
func TestHashShares(t *testing.T) {
	b := []byte("abc")
	h, other := New(), New()
	h.Write(b)
	b[0] = 'x'
	other.Write(b)
	if h.Sum() != library([]byte("abc")) || other.Sum() != library([]byte("xbc")) || string(b) != "xbc" {
		t.Errorf("%x %x", h.Sum(), other.Sum())
	}
}
