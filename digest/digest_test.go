package digest

import (
	"crypto/sha256"
	"encoding/hex"
	"slices"
	"strings"
	"testing"

	"pentimento/api"
)

// library is the digest of s by the library.
func library(s string) string {
	d := sha256.Sum256([]byte(s))
	return string(d[:])
}

// P4.1: Leaf, of contents of any length.
func TestLeaf(t *testing.T) {
	for _, data := range []string{"", "\x00", "a", strings.Repeat("\x05", 64), strings.Repeat("x", 1000), "\xff\xfe"} {
		if d := Leaf(data); d != library("\x00"+data) {
			t.Errorf("Leaf(%q) = %x", data, d)
		}
	}
}

// P4.1: Node, of any number of children of any length.
func TestNode(t *testing.T) {
	a, b, c := Leaf("a"), Leaf("b"), Leaf("c")
	for _, children := range [][]string{nil, {}, {""}, {a}, {a, b}, {b, a}, {a, b, c, a}, {"x", "", "yz"}, slices.Repeat([]string{c}, 100)} {
		kept := slices.Clone(children)
		if d := Node(children...); d != library("\x01"+strings.Join(children, "")) {
			t.Errorf("Node(%q) = %x", children, d)
		}
		if !slices.Equal(children, kept) {
			t.Errorf("the argument was changed: %q", children)
		}
	}
	if Node() != library("\x01") {
		t.Errorf("Node() = %x", Node())
	}
}

// P4.1: a sector's digest is no node's.
func TestLeafIsNoNode(t *testing.T) {
	data := Leaf("a") + Leaf("b")
	if Leaf(data) == Node(Leaf("a"), Leaf("b")) || Leaf("") == Node() {
		t.Error("a sector has the digest of a node")
	}
}

// P4.1: Right.
func TestRight(t *testing.T) {
	for n := range 100 {
		if Right(strings.Repeat("x", n)) != (n == 32) {
			t.Errorf("Right of %d bytes", n)
		}
	}
	if !Right(Leaf("")) || !Right(Node()) {
		t.Error("a digest is not right")
	}
}

// all returns digests with all bytes at all places.
func all() []string {
	var out []string
	for c := range 256 {
		b := make([]byte, 32)
		for i := range b {
			b[i] = byte(c + i*7)
		}
		out = append(out, string(b))
	}
	return out
}

// P4.2: Hex.
func TestHex(t *testing.T) {
	if s := Hex(strings.Repeat("\xff", 32)); s != strings.Repeat("f", 64) {
		t.Errorf("the document's example: %s", s)
	}
	for _, d := range all() {
		if s := Hex(d); s != hex.EncodeToString([]byte(d)) {
			t.Errorf("Hex(%x) = %s", d, s)
		}
	}
	for _, n := range []int{0, 1, 31, 33, 64} {
		if s := Hex(strings.Repeat("a", n)); s != "" {
			t.Errorf("Hex of %d bytes = %q", n, s)
		}
	}
}

// P4.2: each byte at each place is a digit or is none; the length comes first.
func TestBack(t *testing.T) {
	zeros := strings.Repeat("0", 64)
	for at := range 64 {
		for c := range 256 {
			b := []byte(zeros)
			b[at] = byte(c)
			d, why := Back(string(b))
			if !strings.ContainsRune("0123456789abcdef", rune(c)) {
				if d != "" || why != api.ErrForm {
					t.Errorf("byte %#x at %d: %x %d", c, at, d, why)
				}
				continue
			}
			want, _ := hex.DecodeString(string(b))
			if d != string(want) || why != api.OK {
				t.Errorf("digit %c at %d: %x %d", c, at, d, why)
			}
		}
	}
	for _, n := range []int{0, 1, 32, 62, 63, 65, 66, 128} {
		for _, digit := range []string{"0", "f", "g", "\xff"} {
			if d, why := Back(strings.Repeat(digit, n)); d != "" || why != api.ErrLength {
				t.Errorf("Back of %d bytes: %x %d", n, d, why)
			}
		}
	}
}

// P4.3: Back is the inverse of Hex, and Hex of Back.
func TestBackOfHex(t *testing.T) {
	for _, d := range append(all(), Leaf("a"), Node("b")) {
		s := Hex(d)
		if got, why := Back(s); got != d || why != api.OK {
			t.Errorf("Back(Hex(%x)) = %x %d", d, got, why)
		}
		if got, _ := Back(s); Hex(got) != s {
			t.Errorf("Hex(Back(%s)) = %s", s, Hex(got))
		}
	}
}
