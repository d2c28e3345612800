package crc

import (
	"bytes"
	"hash/crc32"
	"testing"
)

// sample is bytes of all values, that do not repeat with a short period.
func sample(n int) []byte {
	b := make([]byte, n)
	for i := range b {
		b[i] = byte(i*i*7 + i*131 + i>>3)
	}
	return b
}

func join(a, b []byte) []byte { return append(bytes.Clone(a), b...) }

// P2.1: the entry of each byte, by the definition's eight steps.
func TestEntry(t *testing.T) {
	for i, want := range map[byte]uint32{0: 0, 1: 0xF26B8303, 2: 0xE13B70F7, 3: 0x1350F3F4, 128: 0x82F63B78, 255: 0xAD7D5351} {
		if n := Entry(i); n != want {
			t.Errorf("Entry(%d) = %#x, want %#x", i, n, want)
		}
	}
	other := crc32.MakeTable(crc32.Castagnoli)
	for i := range 256 {
		if n := Entry(byte(i)); n != other[i] {
			t.Errorf("Entry(%d) = %#x, want %#x", i, n, other[i])
		}
	}
}

// P2.1: the table that a function fills holds the entry of each byte.
func TestTable(t *testing.T) {
	for i, n := range table() {
		if n != Entry(byte(i)) {
			t.Errorf("table()[%d] = %#x, want %#x", i, n, Entry(byte(i)))
		}
	}
}

// P2.1: sums that are known.
func TestSum(t *testing.T) {
	for _, c := range []struct {
		b    string
		want uint32
	}{
		{"", 0},
		{"a", 0xC1D04330},
		{"123456789", 0xE3069283},
		{string(make([]byte, 32)), 0x8A9136AA},
		{string(bytes.Repeat([]byte{0xff}, 32)), 0x62A8AB43},
	} {
		if n := Sum([]byte(c.b)); n != c.want {
			t.Errorf("Sum(%q) = %#x, want %#x", c.b, n, c.want)
		}
	}
	if n := Sum(nil); n != 0 {
		t.Errorf("Sum(nil) = %#x", n)
	}
}

// P2.1: sums of all lengths up to some, and of all single bytes.
func TestSumLengths(t *testing.T) {
	other := crc32.MakeTable(crc32.Castagnoli)
	b := sample(300)
	for n := range len(b) + 1 {
		if got, want := Sum(b[:n]), crc32.Checksum(b[:n], other); got != want {
			t.Errorf("Sum of %d bytes = %#x, want %#x", n, got, want)
		}
	}
	for i := range 256 {
		c := []byte{byte(i)}
		if got, want := Sum(c), crc32.Checksum(c, other); got != want {
			t.Errorf("Sum(%v) = %#x, want %#x", c, got, want)
		}
	}
}

// P2.1: Add starts with its sum's bits inverted, whatever the sum is.
func TestAdd(t *testing.T) {
	other := crc32.MakeTable(crc32.Castagnoli)
	for _, sum := range []uint32{0, 1, 7, 0x80000000, 0xE3069283, 0xFFFFFFFF} {
		if n := Add(sum, nil); n != sum {
			t.Errorf("Add(%#x, nil) = %#x", sum, n)
		}
		for _, n := range []int{1, 2, 64, 300} {
			b := sample(n)
			if got, want := Add(sum, b), crc32.Update(sum, other, b); got != want {
				t.Errorf("Add(%#x, %d bytes) = %#x, want %#x", sum, n, got, want)
			}
		}
	}
}

// P2.2: Add(Sum(a), b) is the sum of a and b one behind the other, wherever the cut is.
func TestAddGoesOn(t *testing.T) {
	b := sample(150)
	want := Sum(b)
	for cut := range len(b) + 1 {
		if n := Add(Sum(b[:cut]), b[cut:]); n != want {
			t.Errorf("cut at %d: %#x, want %#x", cut, n, want)
		}
	}
	if n := Add(Add(Sum(b[:3]), b[3:70]), b[70:]); n != want {
		t.Errorf("three parts: %#x, want %#x", n, want)
	}
	if n := Add(Sum(sample(9)), sample(5)); n != Sum(join(sample(9), sample(5))) {
		t.Errorf("two lists: %#x", n)
	}
}

// P2.3: each change of each single byte changes the sum.
func TestChangedByte(t *testing.T) {
	for _, b := range [][]byte{make([]byte, 64), sample(64), {0}} {
		want := Sum(b)
		for at := range b {
			for change := 1; change < 256; change++ {
				other := bytes.Clone(b)
				other[at] ^= byte(change)
				if Sum(other) == want {
					t.Errorf("byte %d of %d, changed by %#x: the same sum", at, len(b), change)
				}
			}
		}
	}
}

// The general rules 4 and 6: the argument stays as it is, and the same call is answered the same.
func TestRules(t *testing.T) {
	b := sample(64)
	first, added := Sum(b), Add(5, b)
	Entry(9)
	if !bytes.Equal(b, sample(64)) {
		t.Error("the argument was changed")
	}
	if Sum(b) != first || Add(5, b) != added {
		t.Error("another answer to the same call")
	}
}
