package bits

import (
	"encoding/binary"
	"math"
	"math/rand"
	"slices"
	"strings"
	"testing"

	"pentimento/api"
)

// outside are numbers that no set has.
var outside = []int{-1, -2, -64, -127, -128, 128, 129, 191, 192, 255, 256, 1 << 32, 1<<32 + 5, -1 << 32, math.MaxInt, math.MaxInt - 1, math.MinInt, math.MinInt + 1}

// of returns the set of numbers that a set may have.
func of(t *testing.T, l ...int) Set {
	t.Helper()
	s, why := Of(l...)
	if why != api.OK {
		t.Fatalf("Of(%v) = %d", l, why)
	}
	return s
}

// from returns the numbers from m on, below n.
func from(m, n int) []int {
	var l []int
	for i := m; i < n; i++ {
		l = append(l, i)
	}
	return l
}

// some are lists of numbers, ascending: none, each alone, all but each, the words' ends, all, and others by chance.
func some() [][]int {
	out := [][]int{nil, from(0, 128), from(0, 64), from(64, 128), {63, 64}, {0, 127}, {0, 63, 64, 127}}
	for i := range 128 {
		out = append(out, []int{i}, append(from(0, i), from(i+1, 128)...))
	}
	r := rand.New(rand.NewSource(10))
	for k := range 60 {
		var l []int
		for i := range 128 {
			if r.Intn(60) <= k {
				l = append(l, i)
			}
		}
		out = append(out, l)
	}
	return out
}

// has tells if the set does not have just the numbers of l, by each of its methods.
func has(t *testing.T, what string, s Set, l []int) {
	t.Helper()
	var words [2]uint64
	for _, i := range l {
		words[i/64] |= 1 << (i % 64)
	}
	if [2]uint64(s) != words {
		t.Fatalf("%s: words %x, want %x", what, s, words)
	}
	if !slices.Equal(s.List(), l) || s.Count() != len(l) {
		t.Fatalf("%s: List %v, Count %d, want %v", what, s.List(), s.Count(), l)
	}
	for i := range 128 {
		if s.Has(i) != slices.Contains(l, i) {
			t.Fatalf("%s: Has(%d) = %t, want of %v", what, i, s.Has(i), l)
		}
	}
}

// P10.1: Of, whatever the order of the numbers and however often each is told, and the document's example.
func TestOf(t *testing.T) {
	if s := of(t, 0, 64); s != (Set{1, 1}) {
		t.Errorf("Of(0, 64) = %x", s)
	}
	if s := of(t, 63, 127, 1); s != (Set{1<<63 | 2, 1 << 63}) {
		t.Errorf("Of(63, 127, 1) = %x", s)
	}
	r := rand.New(rand.NewSource(1))
	for _, l := range some() {
		has(t, "Of", of(t, l...), l)
		mixed := append(slices.Clone(l), l...)
		r.Shuffle(len(mixed), func(i, j int) { mixed[i], mixed[j] = mixed[j], mixed[i] })
		before := slices.Clone(mixed)
		has(t, "Of a mixed list", of(t, mixed...), l)
		if !slices.Equal(mixed, before) {
			t.Error("Of has changed its list")
		}
	}
}

// P10.1: numbers that no set has: Of and With reject them, no set has them, and without them it is the same.
func TestOutside(t *testing.T) {
	for _, i := range outside {
		for _, l := range [][]int{{i}, {i, 5}, {5, i}, {0, 64, i, 127}} {
			if s, why := Of(l...); s != (Set{}) || why != api.ErrRange {
				t.Errorf("Of(%v) = %x %d", l, s, why)
			}
		}
		for _, s := range []Set{{}, {1, 1}, {5, 1 << 63}, {math.MaxUint64, math.MaxUint64}} {
			if s.Has(i) {
				t.Errorf("%x has %d", s, i)
			}
			if more, why := s.With(i); more != (Set{}) || why != api.ErrRange {
				t.Errorf("%x.With(%d) = %x %d", s, i, more, why)
			}
			if less := s.Without(i); less != s {
				t.Errorf("%x.Without(%d) = %x", s, i, less)
			}
		}
	}
}

// P10.1: With and Without of each number, be it in the set or not; the set itself is as it was.
func TestWith(t *testing.T) {
	for _, l := range some() {
		s := of(t, l...)
		for i := range 128 {
			less := slices.DeleteFunc(slices.Clone(l), func(j int) bool { return j == i })
			more := append(slices.Clone(less), i)
			slices.Sort(more)
			with, why := s.With(i)
			if why != api.OK {
				t.Fatalf("%v.With(%d) = %d", l, i, why)
			}
			has(t, "With", with, more)
			has(t, "Without", s.Without(i), less)
		}
		has(t, "the set itself", s, l)
	}
}

// P10.1, P10.4: Or and Minus of all pairs, and their counts; the sets themselves are as they were.
func TestPairs(t *testing.T) {
	lists := some()
	for _, a := range lists {
		for _, b := range lists[:40] {
			var both, rest []int
			for i := range 128 {
				inA, inB := slices.Contains(a, i), slices.Contains(b, i)
				if inA || inB {
					both = append(both, i)
				}
				if inA && !inB {
					rest = append(rest, i)
				}
			}
			s, o := of(t, a...), of(t, b...)
			has(t, "Or", s.Or(o), both)
			has(t, "Minus", s.Minus(o), rest)
			if o.Or(s) != s.Or(o) || s.Or(s) != s || s.Minus(s) != (Set{}) {
				t.Errorf("%v and %v", a, b)
			}
			if s.Or(o).Count() != o.Count()+s.Minus(o).Count() {
				t.Errorf("%v and %v: counts %d, %d and %d", a, b, s.Or(o).Count(), o.Count(), s.Minus(o).Count())
			}
			if s != of(t, a...) || o != of(t, b...) {
				t.Errorf("%v or %v has changed", a, b)
			}
		}
	}
}

// P10.2: Bytes and From, by the library's encoding of both words.
func TestBytes(t *testing.T) {
	if b := of(t, 0, 65, 127).Bytes(); b != "\x00\x00\x00\x00\x00\x00\x00\x01\x80\x00\x00\x00\x00\x00\x00\x02" {
		t.Errorf("Bytes = %x", b)
	}
	for _, l := range some() {
		s := of(t, l...)
		want := string(binary.BigEndian.AppendUint64(binary.BigEndian.AppendUint64(nil, s[0]), s[1]))
		if s.Bytes() != want {
			t.Errorf("%v: Bytes = %x, want %x", l, s.Bytes(), want)
		}
		if back, why := From(want); back != s || why != api.OK {
			t.Errorf("From(%x) = %x %d", want, back, why)
		}
	}
}

// P10.2: bytes that are too few or too many.
func TestFromErrors(t *testing.T) {
	for _, n := range []int{0, 1, 7, 8, 9, 15, 17, 24, 32, 1000} {
		for _, c := range []string{"\x00", "\x01", "\xff"} {
			if s, why := From(strings.Repeat(c, n)); s != (Set{}) || why != api.ErrLength {
				t.Errorf("From of %d bytes = %x %d", n, s, why)
			}
		}
	}
	if s, why := From(strings.Repeat("\xff", 16)); s != (Set{math.MaxUint64, math.MaxUint64}) || why != api.OK {
		t.Errorf("From of 16 bytes = %x %d", s, why)
	}
}

// P10.3: From of Bytes, and Of of List, return the set; and Bytes of From the bytes.
func TestBack(t *testing.T) {
	r := rand.New(rand.NewSource(3))
	sets := []Set{{}, {math.MaxUint64, 0}, {0, math.MaxUint64}, {math.MaxUint64, math.MaxUint64}}
	for range 500 {
		sets = append(sets, Set{r.Uint64(), r.Uint64()}, Set{r.Uint64() & r.Uint64() & r.Uint64(), 0}, Set{0, r.Uint64()})
	}
	for _, s := range sets {
		if back, why := From(s.Bytes()); back != s || why != api.OK {
			t.Errorf("From of the bytes of %x = %x %d", s, back, why)
		}
		if back, why := Of(s.List()...); back != s || why != api.OK {
			t.Errorf("Of of the list of %x = %x %d", s, back, why)
		}
		b := make([]byte, 16)
		r.Read(b)
		back, why := From(string(b))
		if back.Bytes() != string(b) || why != api.OK {
			t.Errorf("From(%x) = %x %d", b, back, why)
		}
	}
}

// The general rule 4: what a caller writes into a result is not in a later one.
func TestShares(t *testing.T) {
	s := of(t, 1, 70)
	for range 2 {
		l := s.List()
		if !slices.Equal(l, []int{1, 70}) {
			t.Errorf("List = %v", l)
		}
		l[0] = 9
		_ = append(l, 10)
	}
}
