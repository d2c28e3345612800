package word

import (
	"bytes"
	"encoding/binary"
	"math"
	"testing"

	"pentimento/api"
)

var numbers = []uint64{0, 1, 0x7f, 0x80, 0xff, 0x100, 0x10203, 0xffffffff, 0x100000000, 0x0102030405060708, 1 << 63, math.MaxUint64}

var notWidths = []int{0, -1, 9, 10, 16, 255, 256, 257, math.MaxInt32, math.MaxInt, math.MinInt}

// lowest is the width least significant bytes of n, the most significant first, by the library.
func lowest(n uint64, width int) []byte {
	return binary.BigEndian.AppendUint64(nil, n)[8-width:]
}

// P1.1: Put, of each width, behind bytes of several lengths.
func TestPut(t *testing.T) {
	if b := Put(nil, 2, 0x10203); string(b) != "\x02\x03" {
		t.Errorf("the document's example: %x", b)
	}
	for _, before := range []string{"", "a", "\x00\xff\x00"} {
		for width := 1; width <= 8; width++ {
			for _, n := range numbers {
				want := append([]byte(before), lowest(n, width)...)
				if b := Put([]byte(before), width, n); !bytes.Equal(b, want) {
					t.Errorf("Put(%q, %d, %#x) = %x, want %x", before, width, n, b, want)
				}
			}
		}
	}
}

// P1.1: Put, if there is no such width.
func TestPutNoWidth(t *testing.T) {
	for _, width := range notWidths {
		if b := Put([]byte("abc"), width, 7); string(b) != "abc" {
			t.Errorf("Put of width %d: %x", width, b)
		}
		if b := Put(nil, width, 7); len(b) != 0 {
			t.Errorf("Put to nil of width %d: %x", width, b)
		}
	}
}

// P1.1 and the general rules 4 and 5: Put's answer shares nothing with its argument, nor with another answer.
func TestPutShares(t *testing.T) {
	room := []byte("abcdefghijklmnop")
	b := Put(room[:2], 4, 0x31323334)
	c := Put(room[:2], 4, 0x35363738)
	none := Put(room[:2], 0, 0)
	if string(room) != "abcdefghijklmnop" {
		t.Errorf("written behind the argument: %s", room)
	}
	room[0], b[1], none[0] = 'x', 'y', 'z'
	_ = append(none, 'w')
	if string(room[:3]) != "xbc" || string(b) != "ay1234" || string(c) != "ab5678" || string(none) != "zb" {
		t.Errorf("shared: %s %s %s %s", room, b, c, none)
	}
	_ = append(b, 'v')
	if d := Put(b, 1, 'u'); string(d) != "ay1234u" {
		t.Errorf("behind an answer: %s", d)
	}
}

// P1.1: Get, at each place and of each width.
func TestGet(t *testing.T) {
	b := []byte{0xff, 0x80, 3, 4, 5, 6, 7, 8, 9, 0xfe}
	for at := range len(b) + 3 {
		for width := 1; width <= 8; width++ {
			var want uint64
			why := api.ErrShort
			if at+width <= len(b) {
				why = api.OK
				wide := make([]byte, 8)
				copy(wide[8-width:], b[at:at+width])
				want = binary.BigEndian.Uint64(wide)
			}
			if n, e := Get(b, at, width); n != want || e != why {
				t.Errorf("Get(%d, %d) = %#x %d, want %#x %d", at, width, n, e, want, why)
			}
		}
	}
	if b[0] != 0xff || b[9] != 0xfe {
		t.Error("the argument was changed")
	}
}

// P1.1: Get's errors, ErrArg ahead of ErrShort.
func TestGetErrors(t *testing.T) {
	b := []byte{1, 2, 3, 4, 5}
	for _, width := range notWidths {
		for _, at := range []int{0, 2, 5, 6, -1, math.MaxInt, math.MinInt} {
			if n, e := Get(b, at, width); n != 0 || e != api.ErrArg {
				t.Errorf("Get(%d, %d) = %d %d", at, width, n, e)
			}
		}
	}
	for width := 1; width <= 8; width++ {
		for _, at := range []int{-1, -5, math.MinInt} {
			if n, e := Get(b, at, width); n != 0 || e != api.ErrArg {
				t.Errorf("Get(%d, %d) = %d %d", at, width, n, e)
			}
		}
		for _, at := range []int{5, 6, math.MaxInt - 7, math.MaxInt} {
			if n, e := Get(b, at, width); n != 0 || e != api.ErrShort {
				t.Errorf("Get(%d, %d) = %d %d", at, width, n, e)
			}
		}
		if n, e := Get(nil, 0, width); n != 0 || e != api.ErrShort {
			t.Errorf("Get of nil, width %d: %d %d", width, n, e)
		}
	}
}

// P1.2: a reader goes from the first byte to the last.
func TestReader(t *testing.T) {
	r := New([]byte{1, 2, 3, 4, 5, 6, 7, 8, 9, 10, 11, 12, 13})
	if n := r.Num(1); n != 1 || r.Left() != 12 {
		t.Errorf("Num(1) = %#x, left %d", n, r.Left())
	}
	if b := r.Bytes(2); string(b) != "\x02\x03" || r.Left() != 10 {
		t.Errorf("Bytes(2) = %x, left %d", b, r.Left())
	}
	if b := r.Bytes(0); len(b) != 0 || r.Left() != 10 {
		t.Errorf("Bytes(0) = %x, left %d", b, r.Left())
	}
	if n := r.Num(8); n != 0x0405060708090a0b || r.Left() != 2 {
		t.Errorf("Num(8) = %#x, left %d", n, r.Left())
	}
	if n := r.Num(2); n != 0x0c0d || r.Left() != 0 {
		t.Errorf("Num(2) = %#x, left %d", n, r.Left())
	}
	if b := r.Bytes(0); len(b) != 0 || r.Why() != api.OK {
		t.Errorf("Bytes(0) at the end: %x, why %d", b, r.Why())
	}
	if n := r.Num(1); n != 0 || r.Why() != api.ErrShort {
		t.Errorf("Num(1) behind the end: %d, why %d", n, r.Why())
	}
}

// P1.2: each width is read.
func TestReaderWidths(t *testing.T) {
	b := []byte{0xf1, 0xf2, 0xf3, 0xf4, 0xf5, 0xf6, 0xf7, 0xf8, 0xf9}
	for width := 1; width <= 8; width++ {
		r := New(b)
		want, _ := Get(b, 0, width)
		if n := r.Num(width); n != want || r.Left() != 9-width || r.Why() != api.OK {
			t.Errorf("Num(%d) = %#x, left %d, why %d", width, n, r.Left(), r.Why())
		}
	}
}

// stopped tells of what a reader does, that has stopped, beside what it is to do.
func stopped(t *testing.T, what string, r *Reader, why api.Errno) {
	t.Helper()
	for range 2 {
		if r.Left() != 0 || r.Why() != why {
			t.Errorf("%s: left %d, why %d, want %d", what, r.Left(), r.Why(), why)
		}
		for _, n := range []int{1, 9, 0, -1, math.MaxInt, math.MinInt} {
			if got := r.Num(n); got != 0 {
				t.Errorf("%s: Num(%d) = %d", what, n, got)
			}
			if got := r.Bytes(n); len(got) != 0 {
				t.Errorf("%s: Bytes(%d) = %x", what, n, got)
			}
		}
	}
}

// P1.2: a reader that was asked for what can not be asked for, or for more than there is, gives nothing more; the first reason stays.
func TestReaderStops(t *testing.T) {
	b := []byte{1, 2, 3, 4, 5}
	for _, width := range notWidths {
		r := New(b)
		r.Num(1)
		if n := r.Num(width); n != 0 {
			t.Errorf("Num(%d) = %d", width, n)
		}
		stopped(t, "no width", r, api.ErrArg)
	}
	for _, many := range []int{-1, -5, math.MinInt} {
		r := New(b)
		if got := r.Bytes(many); len(got) != 0 {
			t.Errorf("Bytes(%d) = %x", many, got)
		}
		stopped(t, "negative", r, api.ErrArg)
	}
	for width := 6; width <= 8; width++ {
		r := New(b)
		if n := r.Num(width); n != 0 {
			t.Errorf("Num(%d) = %d", width, n)
		}
		stopped(t, "Num of too much", r, api.ErrShort)
	}
	for _, many := range []int{5, 6, math.MaxInt} {
		r := New(b)
		r.Num(1)
		if got := r.Bytes(many); len(got) != 0 {
			t.Errorf("Bytes(%d) = %x", many, got)
		}
		stopped(t, "Bytes of too much", r, api.ErrShort)
	}
}

// P1.2: a reader of nothing, and none at all.
func TestReaderOfNothing(t *testing.T) {
	for what, r := range map[string]*Reader{"nil": New(nil), "empty": New([]byte{}), "zero": {}} {
		if r.Left() != 0 || r.Why() != api.OK || len(r.Bytes(0)) != 0 || r.Why() != api.OK {
			t.Errorf("%s: left %d, why %d", what, r.Left(), r.Why())
		}
		r.Num(9)
		stopped(t, what, r, api.ErrArg)
	}
	r := New(nil)
	r.Bytes(1)
	stopped(t, "empty", r, api.ErrShort)
	stopped(t, "no reader", nil, api.ErrNil)
}

// P1.2 and the general rules 4 and 5: a reader keeps nothing of its argument, and gives out nothing of its own.
func TestReaderShares(t *testing.T) {
	b := []byte("abcdefgh")
	r := New(b)
	b[0], b[7] = 'x', 'x'
	first := r.Bytes(3)
	if string(first) != "abc" {
		t.Errorf("the argument was kept: %s", first)
	}
	_ = append(first, 'y', 'y')
	first[0] = 'z'
	if rest := r.Bytes(5); string(rest) != "defgh" {
		t.Errorf("a result is shared: %s", rest)
	}
	if string(b) != "xbcdefgx" {
		t.Errorf("the argument was changed: %s", b)
	}
}

// P1.3: what Put encoded, Get returns, modulo 256 to the power of the width; so does a reader.
func TestGetOfPut(t *testing.T) {
	for width := 1; width <= 8; width++ {
		for _, n := range numbers {
			want := n
			if width < 8 {
				want = n % (1 << (8 * width))
			}
			for _, before := range []string{"", "ab"} {
				b := Put(Put([]byte(before), width, n), 2, 0x7777)
				if got, e := Get(b, len(before), width); got != want || e != api.OK {
					t.Errorf("width %d: Get of Put of %#x = %#x %d", width, n, got, e)
				}
				r := New(b)
				r.Bytes(len(before))
				if got := r.Num(width); got != want || r.Left() != 2 {
					t.Errorf("width %d: Num of Put of %#x = %#x", width, n, got)
				}
			}
		}
	}
}
