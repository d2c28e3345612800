package sector

import (
	"math"
	"strings"
	"testing"

	"pentimento/api"
)

// many returns n strings "c", one behind the other.
func many(c string, n int) string { return strings.Repeat(c, n) }

// ramp is a sector in which no two neighbours are alike.
func ramp() string {
	b := make([]byte, 64)
	for i := range b {
		b[i] = byte(i * 5)
	}
	return string(b)
}

// samples are sectors with runs of all lengths, at all places.
func samples() []string {
	out := []string{many("\x00", 64), many("\xff", 64), many("\xa5", 64), ramp(), many("ab", 32), many("aabbb ", 10) + "****"}
	for n := 1; n < 64; n++ {
		out = append(out, many("*", n)+many(" ", 64-n))
	}
	for n := 1; n < 63; n++ {
		out = append(out, "x"+many("y", n)+many("x", 63-n))
	}
	next := uint32(1)
	for range 300 {
		b := make([]byte, 64)
		for i := range b {
			next = next*1664525 + 1013904223
			b[i] = byte(next >> 24)
			if i > 0 && next>>20&3 != 0 {
				b[i] = b[i-1]
			}
		}
		out = append(out, string(b))
	}
	return out
}

// P5.1: Zero and Fill, of each byte.
func TestFill(t *testing.T) {
	if Zero() != string(make([]byte, 64)) {
		t.Errorf("Zero() = %q", Zero())
	}
	for c := range 256 {
		if s := Fill(byte(c)); s != many(string([]byte{byte(c)}), 64) {
			t.Errorf("Fill(%d) = %q", c, s)
		}
	}
}

// P5.1: Pad, of each length up to a sector's, and of more.
func TestPad(t *testing.T) {
	for n := range 65 {
		text := many("\xe9", n)
		if s, why := Pad(text); s != text+string(make([]byte, 64-n)) || why != api.OK {
			t.Errorf("Pad of %d bytes = %q %d", n, s, why)
		}
	}
	for _, n := range []int{65, 66, 128, 10000} {
		for _, c := range []string{"x", "\x00"} {
			if s, why := Pad(many(c, n)); s != "" || why != api.ErrLength {
				t.Errorf("Pad of %d bytes = %q %d", n, s, why)
			}
		}
	}
	// Bytes count, not the letters that they make.
	if s, why := Pad(many("é", 33)); s != "" || why != api.ErrLength {
		t.Errorf("Pad of 33 letters of two bytes = %q %d", s, why)
	}
}

// P5.1: Right.
func TestRight(t *testing.T) {
	for n := range 200 {
		if Right(many("x", n)) != (n == 64) {
			t.Errorf("Right of %d bytes", n)
		}
	}
	if !Right(many("é", 32)) || Right(many("é", 64)) {
		t.Error("Right of letters of two bytes")
	}
}

// P5.1: Mix.
func TestMix(t *testing.T) {
	for n, want := range map[uint64]string{
		0:                  "\x00\x00\x00\x00\x00\x00\x00\x00",
		1:                  "\x00\x00\x00\x00\x00\x00\x00\x01",
		0x0102030405060708: "\x01\x02\x03\x04\x05\x06\x07\x08",
		0xff00:             "\x00\x00\x00\x00\x00\x00\xff\x00",
		1 << 63:            "\x80\x00\x00\x00\x00\x00\x00\x00",
		math.MaxUint64:     "\xff\xff\xff\xff\xff\xff\xff\xff",
	} {
		if s := Mix(n); s != many(want, 8) {
			t.Errorf("Mix(%#x) = %q", n, s)
		}
	}
}

// P5.2: Differ, of strings that are as long as each other or not.
func TestDiffer(t *testing.T) {
	for _, c := range []struct {
		a, b         string
		count, first int
	}{
		{"", "", 0, 0},
		{"abc", "abc", 0, 0},
		{"abc", "abd", 1, 2},
		{"abc", "xbc", 1, 0},
		{"abc", "xyz", 3, 0},
		{"abcde", "aXcXe", 2, 1},
		{"", "a", 1, 0},
		{"abc", "", 3, 0},
		{"abc", "abcde", 2, 3},
		{"abc", "aXcde", 3, 1},
		{"abc", "abc\x00", 1, 3},
		{"\x00", "", 1, 0},
		{"abc", "bc", 3, 0},
	} {
		if n, at := Differ(c.a, c.b); n != c.count || at != c.first {
			t.Errorf("Differ(%q, %q) = %d %d, want %d %d", c.a, c.b, n, at, c.count, c.first)
		}
		if n, at := Differ(c.b, c.a); n != c.count || at != c.first {
			t.Errorf("Differ(%q, %q) = %d %d, want %d %d", c.b, c.a, n, at, c.count, c.first)
		}
	}
}

// P5.2: Differ, of sectors that differ from some index on, and of such that differ at one.
func TestDifferSectors(t *testing.T) {
	s := ramp()
	for at := range 64 {
		if n, first := Differ(s, s[:at]+many("\xfe", 64-at)); n != 64-at || first != at {
			t.Errorf("from %d on: %d %d", at, n, first)
		}
		if n, first := Differ(s, s[:at]+"\xfe"+s[at+1:]); n != 1 || first != at {
			t.Errorf("at %d: %d %d", at, n, first)
		}
		if n, first := Differ(s, s[:at]); n != 64-at || first != at {
			t.Errorf("up to %d: %d %d", at, n, first)
		}
	}
}

// P5.3: Short, of the document's examples and of others.
func TestShort(t *testing.T) {
	padded, _ := Pad("a")
	for _, c := range []struct{ s, want string }{
		{Fill(5), "05*64"},
		{padded, "61 00*63"},
		{Zero(), "00*64"},
		{Fill(255), "ff*64"},
		{many("\xab\xcd", 32), many("ab cd ", 31) + "ab cd"},
		{many("a", 62) + "bb", "61*62 62*2"},
		{"\x00" + many("\x0f", 10) + many("\xf0", 9) + many("\x00", 44), "00 0f*10 f0*9 00*44"},
		{many("x", 63) + "\n", "78*63 0a"},
	} {
		if s := Short(c.s); s != c.want {
			t.Errorf("Short(%q) = %q, want %q", c.s, s, c.want)
		}
		if s, why := Long(c.want); s != c.s || why != api.OK {
			t.Errorf("Long(%q) = %q %d", c.want, s, why)
		}
	}
	for _, n := range []int{0, 1, 63, 65, 128} {
		if s := Short(many("x", n)); s != "" {
			t.Errorf("Short of %d bytes = %q", n, s)
		}
	}
}

// P5.3: each byte, as a run of one and of more.
func TestShortBytes(t *testing.T) {
	for c := range 256 {
		for _, other := range []string{"\x00", "\xff"} {
			b := string([]byte{byte(c)})
			if b == other {
				continue
			}
			name := string([]byte{"0123456789abcdef"[c/16], "0123456789abcdef"[c%16]})
			end := map[string]string{"\x00": "00", "\xff": "ff"}[other]
			if s := Short(b + many(other, 63)); s != name+" "+end+"*63" {
				t.Errorf("Short of one %s = %q", name, s)
			}
			if s := Short(many(b, 30) + many(other, 34)); s != name+"*30 "+end+"*34" {
				t.Errorf("Short of thirty %s = %q", name, s)
			}
		}
	}
}

// P5.3: what is no sector's short form is rejected, even if it could be read as a sector.
func TestLongErrors(t *testing.T) {
	for _, s := range []string{
		"", " ", "*", "*64", "0", "00", "05", "5*64", "005*64", "0x5*64", "+5*64", "-5*64", "_5*64", "g5*64", "5g*64",
		"05*63", "05*65", "05*064", "05*+64", "05*-64", "05*6_4", "05*0x40", "05*", "05*64*", "05**64", "05*64*1", "05 *64", "05* 64",
		" 05*64", "05*64 ", "05*64\n", "\t05*64", "05*64\x00", "05*32 05*32", "05 05*63", "05*63 05", "05*64 06*0", "06*0 05*64", "05*1 06*63", "05*63 06*1",
		"05*32  06*32", "05*32\t06*32", "05*32,06*32", "05*3206*32", "05*32 06*33", "05*32 06*31", "05*33 06*-1 05*32",
		"05*64 06", "06 05*64", "AB*64", "Ab*64", "aB*64", "05*0", "05*-1", "100*64", "zz*64", "05x64", "0505*32", "05*６４",
		"05*18446744073709551680", "05*9223372036854775807", "05*9223372036854775808", "05*4294967360", "05*99999999999999999999999",
		"05*-9223372036854775808", "05*64 06*9223372036854775807", many("05 06 ", 32), many("05 06 ", 31) + "05 06 ",
		many("05 06 ", 32) + "05", many("05 06 ", 31) + "05", many("05 05 ", 31) + "05 05", many("0", 64), many("05", 64), many("0", 100000), many(" ", 100000), many("05*64 ", 10000),
		"05*" + many("0", 100000) + "64", many("*", 64), "\xff*64", many("\x05", 64),
	} {
		if got, why := Long(s); got != "" || why != api.ErrForm {
			t.Errorf("Long(%.40q) = %q %d", s, got, why)
		}
	}
}

// P5.3: a short form with one byte changed is rejected, or is the short form of what Long returns.
func TestLongChanged(t *testing.T) {
	for _, form := range []string{"05*64", "61 00*63", "61*9 00*10 ff 2a*44"} {
		for at := range len(form) {
			for c := range 256 {
				s := form[:at] + string([]byte{byte(c)}) + form[at+1:]
				got, why := Long(s)
				if why == api.OK && Short(got) != s || why != api.OK && (got != "" || why != api.ErrForm) {
					t.Errorf("Long(%q) = %q %d", s, got, why)
				}
			}
			if got, why := Long(form[:at]); got != "" || why != api.ErrForm {
				t.Errorf("Long(%q) = %q %d", form[:at], got, why)
			}
		}
	}
}

// P5.4: Long is the inverse of Short, for sectors of all kinds.
func TestLongOfShort(t *testing.T) {
	for _, s := range samples() {
		form := Short(s)
		if got, why := Long(form); got != s || why != api.OK {
			t.Errorf("Long(Short(%q)) = %q %d", s, got, why)
		}
		for _, part := range strings.Split(form, " ") {
			if len(part) < 2 || strings.HasSuffix(part, "*1") || strings.HasSuffix(part, "*0") {
				t.Errorf("Short(%q) has %q", s, part)
			}
		}
	}
}

// P5.3: the iterator yields each run once, and stops when it is told to.
func TestRuns(t *testing.T) {
	for _, s := range append(samples(), "", "a", "aab") {
		for range 2 {
			all, last := "", -1
			for c, n := range runs(s) {
				if n < 1 || int(c) == last {
					t.Errorf("runs(%q): %d times %d behind %d", s, n, c, last)
				}
				all, last = all+many(string([]byte{c}), n), int(c)
			}
			if all != s {
				t.Errorf("runs(%q) are %q", s, all)
			}
		}
	}
	seen := 0
	for range runs("aabbcc") {
		seen++
		break
	}
	if seen != 1 {
		t.Errorf("%d runs were yielded", seen)
	}
}
