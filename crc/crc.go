// Package crc is layer 2: CRC-32C. See shared/doc/02-crc.md.
package crc

// The polynomial of CRC-32C, its highest power in the lowest bit.
const polynomial = 0x82F63B78

// Entry returns the table's entry of i.
func Entry(i byte) uint32 {
	n := uint32(i)
	for range 8 {
		odd := n&1 == 1
		n >>= 1
		if odd {
			n ^= polynomial
		}
	}
	return n
}

// Sum returns the checksum of b.
func Sum(b []byte) uint32 { return Add(0, b) }

// Add returns the checksum of b behind bytes whose checksum is sum.
func Add(sum uint32, b []byte) uint32 {
	entries := table()
	n := ^sum
	for _, c := range b {
		n = n>>8 ^ entries[byte(n)^c]
	}
	return ^n
}

// table returns the entries of all bytes. The entry of a number is the exclusive or of its bits' entries, so that the eight steps are needed for single bits only: a table is made for each sum, and most sums are of few bytes.
func table() [256]uint32 {
	var entries [256]uint32
	for i := range 256 {
		low := i & -i
		if i == low {
			entries[i] = Entry(byte(i))
		} else {
			entries[i] = entries[low] ^ entries[i^low]
		}
	}
	return entries
}
