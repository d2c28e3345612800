package rec

import (
	"encoding/binary"
	"hash/crc32"
	"math"
	"strings"
	"testing"

	"pentimento/api"
)

// sealed is bytes, filled up by bytes 0 to 60, and their checksum, by the library.
func sealed(b string) string {
	full := make([]byte, 60)
	copy(full, b)
	return string(binary.BigEndian.AppendUint32(full, crc32.Checksum(full, crc32.MakeTable(crc32.Castagnoli))))
}

// bodyOf is n bytes, of which no two neighbours are alike and none is 0.
func bodyOf(n int) string {
	b := make([]byte, n)
	for i := range b {
		b[i] = byte(i*7+n)%251 + 1
	}
	return string(b)
}

// bodies are bodies of all lengths, of bytes 0 and of others.
func bodies() []string {
	var out []string
	for n := range 59 {
		out = append(out, bodyOf(n), strings.Repeat("\x00", n), strings.Repeat("\xff", n))
	}
	return append(out, strings.Repeat("\x00", 57)+"x", "x"+strings.Repeat("\x00", 57), "\x00x\x00")
}

var notKinds = []int{0, -1, 9, 10, 255, 256, 257, 264, 1<<32 + 1, math.MaxInt, math.MinInt, math.MinInt + 1}

// made is the record that Make makes.
func made(t *testing.T, kind int, body string) string {
	t.Helper()
	s, why := Make(kind, body)
	if why != api.OK || len(s) != 64 {
		t.Fatalf("Make(%d, %q) = %q %d", kind, body, s, why)
	}
	return s
}

// rejected tells if not all calls that take a record's sector reject s by this error, and with nothing beside it.
func rejected(t *testing.T, s string, want api.Errno) {
	t.Helper()
	if kind, why := Kind(s); kind != 0 || why != want {
		t.Errorf("Kind(%q) = %d %d, want %d", s, kind, why, want)
	}
	for kind := -1; kind <= 10; kind++ {
		if body, why := Open(kind, s); body != "" || why != want {
			t.Errorf("Open(%d, %q) = %q %d, want %d", kind, s, body, why, want)
		}
	}
	if side, c, why := Config(s); side != 0 || c != (api.Config{}) || why != want {
		t.Errorf("Config(%q) = %d %v %d, want %d", s, side, c, why, want)
	}
}

// The constants, by the document's numbers.
func TestKinds(t *testing.T) {
	if l := [...]int{Super, Boot, Epoch, Commit, Dirty, Node, Undo, Cow}; l != [...]int{1, 2, 3, 4, 5, 6, 7, 8} {
		t.Errorf("the kinds are %v", l)
	}
	if Most != 58 {
		t.Errorf("Most = %d", Most)
	}
}

// P8.1: Make, of each kind and of bodies of each length.
func TestMake(t *testing.T) {
	if s := made(t, 2, "ab"); s != sealed("\x02\x02ab") || s[:60] != "\x02\x02ab"+strings.Repeat("\x00", 56) {
		t.Errorf("the document's example: %q", s)
	}
	for kind := 1; kind <= 8; kind++ {
		for _, body := range bodies() {
			want := sealed(string([]byte{byte(kind), byte(len(body))}) + body)
			if s := made(t, kind, body); s != want {
				t.Errorf("Make(%d, %q) = %q, want %q", kind, body, s, want)
			}
		}
	}
}

// P8.1: Make's errors, ErrKind ahead of ErrLong.
func TestMakeErrors(t *testing.T) {
	for _, n := range []int{0, 1, 58, 59, 1000} {
		for _, kind := range notKinds {
			if s, why := Make(kind, bodyOf(n)); s != "" || why != api.ErrKind {
				t.Errorf("Make(%d) of %d bytes = %q %d", kind, n, s, why)
			}
		}
	}
	for _, n := range []int{59, 60, 62, 63, 64, 256, 257, 300, 100000} {
		for kind := 1; kind <= 8; kind++ {
			if s, why := Make(kind, bodyOf(n)); s != "" || why != api.ErrLong {
				t.Errorf("Make(%d) of %d bytes = %q %d", kind, n, s, why)
			}
		}
	}
}

// P8.1: Kind and Open of records, which Open opens for their own kind alone.
func TestOpen(t *testing.T) {
	for kind := 1; kind <= 8; kind++ {
		for _, body := range bodies() {
			s := made(t, kind, body)
			if k, why := Kind(s); k != kind || why != api.OK {
				t.Errorf("Kind(%q) = %d %d, want %d", s, k, why, kind)
			}
			if b, why := Open(kind, s); b != body || why != api.OK {
				t.Errorf("Open(%d, %q) = %q %d", kind, s, b, why)
			}
		}
		s := made(t, kind, "body")
		others := append([]int{kind%8 + 1, (kind+3)%8 + 1, kind + 256, kind - 256, -kind}, notKinds...)
		for _, other := range others {
			if b, why := Open(other, s); b != "" || why != api.ErrKind {
				t.Errorf("Open(%d) of a record of kind %d = %q %d", other, kind, b, why)
			}
		}
	}
}

// P8.1: what is no sector, whatever its sum is, is ErrLength.
func TestOpenLength(t *testing.T) {
	s := made(t, Super, "body")
	for _, wrong := range []string{"", "\x01", s[:2], s[:60], s[:63], s + "\x00", s + s, s[1:], strings.Repeat("\x00", 1000)} {
		rejected(t, wrong, api.ErrLength)
	}
}

// P8.1: a wrong sum is ErrSum, also where what it is of is wrong too.
func TestOpenSum(t *testing.T) {
	for _, b := range []string{"\x01\x04body", "\x00\x00", "\x09\x00", "\x01\x3b", "\x01\xff", "\x01\x02abc", ""} {
		right := sealed(b)
		// The sum itself, its bytes the other way round, and none.
		for _, sum := range []string{right[60:63] + string([]byte{right[63] ^ 1}), string([]byte{right[63], right[62], right[61], right[60]}), "\x00\x00\x00\x00"} {
			rejected(t, right[:60]+sum, api.ErrSum)
		}
	}
	rejected(t, strings.Repeat("\x00", 64), api.ErrSum)
	rejected(t, strings.Repeat("\xff", 64), api.ErrSum)
}

// P8.1: with a right sum, what is no record is ErrForm.
func TestOpenForm(t *testing.T) {
	for _, kind := range []byte{0, 9, 10, 128, 255} {
		for _, b := range []string{"\x00", "\x04body", "\x3a", "\x3b", "\xff"} {
			rejected(t, sealed(string([]byte{kind})+b), api.ErrForm)
		}
	}
	for kind := byte(1); kind <= 8; kind++ {
		for n := 59; n < 256; n++ {
			rejected(t, sealed(string([]byte{kind, byte(n)})), api.ErrForm)
			rejected(t, sealed(string([]byte{kind, byte(n)})+bodyOf(58)), api.ErrForm)
		}
		for n := range 58 {
			for at := n; at < 58; at++ {
				rest := strings.Repeat("\x00", at-n) + "\x01"
				rejected(t, sealed(string([]byte{kind, byte(n)})+bodyOf(n)+rest), api.ErrForm)
			}
		}
	}
}

// P8.2: what Open accepts is what Make made of its kind and its body.
func TestMakeOfOpen(t *testing.T) {
	accepted := 0
	for kind := range byte(11) {
		for n := range byte(70) {
			for _, body := range []string{"", "a", "\x00a", bodyOf(30), bodyOf(57), bodyOf(58)} {
				s := sealed(string([]byte{kind, n}) + body)
				for k := -1; k <= 11; k++ {
					b, why := Open(k, s)
					if why != api.OK {
						continue
					}
					accepted++
					if again, why := Make(k, b); again != s || why != api.OK || k != int(kind) || len(b) != int(n) {
						t.Errorf("Open(%d, %q) = %q, of which Make makes %q", k, s, b, again)
					}
				}
			}
		}
	}
	// Of each of the eight kinds: a body fits each length from its own on.
	if want := 8 * (59 + 58 + 57 + 29 + 2 + 1); accepted != want {
		t.Errorf("%d were accepted, want %d", accepted, want)
	}
}

// P8.3: a record in which one byte is changed is rejected, whichever byte it is and whatever it is changed to.
func TestChanged(t *testing.T) {
	c := api.Config{Vol: 7, G: api.Geom{N: 5, F: 2, Cow: 3, Undo: 4}, Last: 9}
	volume, _ := Volume(api.Target, c)
	for _, s := range []string{made(t, Boot, "ab"), made(t, Cow, bodyOf(58)), made(t, Dirty, ""), volume} {
		kind, _ := Kind(s)
		for at := range s {
			for by := 1; by < 256; by++ {
				wrong := s[:at] + string([]byte{s[at] ^ byte(by)}) + s[at+1:]
				k, why := Kind(wrong)
				body, whyOpen := Open(kind, wrong)
				side, got, whyConfig := Config(wrong)
				if k != 0 || why != api.ErrSum || body != "" || whyOpen != api.ErrSum || side != 0 || got != (api.Config{}) || whyConfig != api.ErrSum {
					t.Fatalf("byte %d changed by %#x: %d %d, %q %d, %d %v %d", at, by, k, why, body, whyOpen, side, got, whyConfig)
				}
			}
		}
	}
}

// volumes are valid volumes, with each number at its ends.
func volumes() []api.Config {
	var out []api.Config
	for _, vol := range []uint32{0, 1, 0x01020304, math.MaxUint32} {
		for _, last := range []uint64{1, 2, 0x010203040506, 1<<48 - 1, 1 << 48} {
			for _, n := range []int{1, 2, 127, 128} {
				for f := 2; f <= 4; f++ {
					for _, room := range [][2]int{{0, 1}, {1, 2}, {63, 255}, {64, 256}, {5, 320}} {
						out = append(out, api.Config{Vol: vol, G: api.Geom{N: n, F: f, Cow: room[0], Undo: room[1]}, Last: last})
					}
				}
			}
		}
	}
	return out
}

// bodyOfVolume is the definition's body, with whatever numbers.
func bodyOfVolume(side byte, c api.Config) string {
	b := binary.BigEndian.AppendUint32([]byte{side}, c.Vol)
	b = binary.BigEndian.AppendUint16(b, uint16(c.G.N))
	b = append(b, byte(c.G.F))
	b = binary.BigEndian.AppendUint16(b, uint16(c.G.Cow))
	b = binary.BigEndian.AppendUint16(b, uint16(c.G.Undo))
	return string(binary.BigEndian.AppendUint64(b, c.Last))
}

// P8.4: a volume that is known, byte by byte.
func TestVolumeBytes(t *testing.T) {
	c := api.Config{Vol: 0xa1a2a3a4, G: api.Geom{N: 5, F: 3, Cow: 64, Undo: 0x102}, Last: 0x010203040506}
	want := sealed("\x01\x14" + "\x01" + "\xa1\xa2\xa3\xa4" + "\x00\x05" + "\x03" + "\x00\x40" + "\x01\x02" + "\x00\x00\x01\x02\x03\x04\x05\x06")
	if s, why := Volume(1, c); s != want || why != api.OK {
		t.Errorf("Volume = %q %d, want %q", s, why, want)
	}
	if side, got, why := Config(want); side != 1 || got != c || why != api.OK {
		t.Errorf("Config = %d %v %d", side, got, why)
	}
}

// P8.4: Volume, and Config back, of both sides and all kinds of volumes.
func TestVolume(t *testing.T) {
	for _, c := range volumes() {
		for side := range 2 {
			s, why := Volume(side, c)
			if why != api.OK || s != made(t, Super, bodyOfVolume(byte(side), c)) {
				t.Fatalf("Volume(%d, %v) = %q %d", side, c, s, why)
			}
			if sd, got, why := Config(s); sd != side || got != c || why != api.OK {
				t.Fatalf("Config of Volume(%d, %v) = %d %v %d", side, c, sd, got, why)
			}
		}
	}
}

var valid = api.Config{Vol: 7, G: api.Geom{N: 5, F: 2, Cow: 3, Undo: 4}, Last: 9}

// wrongGeoms are geometries that are not valid; some would be, were they cut to their bytes.
func wrongGeoms() []api.Geom {
	out := []api.Geom{{}}
	for _, n := range []int{0, -1, 129, 1<<16 + 5, 1<<32 + 5, math.MaxInt, math.MinInt} {
		out = append(out, api.Geom{N: n, F: 2, Cow: 3, Undo: 4})
	}
	for _, f := range []int{0, 1, 5, 256 + 2, -2, math.MaxInt, math.MinInt} {
		out = append(out, api.Geom{N: 5, F: f, Cow: 3, Undo: 4})
	}
	for _, cow := range []int{-1, 65, 1<<16 + 3, math.MaxInt, math.MinInt} {
		out = append(out, api.Geom{N: 5, F: 2, Cow: cow, Undo: 4})
	}
	for _, undo := range []int{0, -1, 321, 1<<16 + 4, math.MaxInt, math.MinInt} {
		out = append(out, api.Geom{N: 5, F: 2, Cow: 3, Undo: undo})
	}
	return out
}

var (
	wrongSides = []int{-1, 2, 3, 256, 257, 1 << 32, 1<<32 + 1, math.MaxInt, math.MinInt}
	wrongLasts = []uint64{0, 1<<48 + 1, 1 << 63, math.MaxUint64}
)

// P8.4: Volume's errors: ErrArg, then ErrGeom, then ErrEpoch.
func TestVolumeErrors(t *testing.T) {
	refused := func(side int, c api.Config, want api.Errno) {
		t.Helper()
		if s, why := Volume(side, c); s != "" || why != want {
			t.Errorf("Volume(%d, %v) = %q %d, want %d", side, c, s, why, want)
		}
	}
	lasts := append([]uint64{9}, wrongLasts...)
	for _, last := range lasts {
		for _, g := range append(wrongGeoms(), valid.G) {
			for _, side := range wrongSides {
				refused(side, api.Config{Vol: 7, G: g, Last: last}, api.ErrArg)
			}
		}
		for _, g := range wrongGeoms() {
			for side := range 2 {
				refused(side, api.Config{Vol: 7, G: g, Last: last}, api.ErrGeom)
			}
		}
	}
	for _, last := range wrongLasts {
		for side := range 2 {
			refused(side, api.Config{Vol: 7, G: valid.G, Last: last}, api.ErrEpoch)
		}
	}
}

// P8.4: Config's errors of records that are right: of another kind, of another length, of no valid volume.
func TestConfigErrors(t *testing.T) {
	refused := func(s string, want api.Errno) {
		t.Helper()
		if side, c, why := Config(s); side != 0 || c != (api.Config{}) || why != want {
			t.Errorf("Config(%q) = %d %v %d, want %d", s, side, c, why, want)
		}
	}
	body := bodyOfVolume(1, valid)
	for kind := Boot; kind <= Cow; kind++ {
		refused(made(t, kind, body), api.ErrKind)
		refused(made(t, kind, "x"), api.ErrKind)
	}
	for n := range 59 {
		if n != 20 {
			refused(made(t, Super, (body + strings.Repeat("\x00", 38))[:n]), api.ErrForm)
		}
	}
	for side := 2; side < 256; side++ {
		refused(made(t, Super, bodyOfVolume(byte(side), valid)), api.ErrForm)
	}
	for _, g := range []api.Geom{{}, {N: 0, F: 2, Undo: 1}, {N: 129, F: 2, Undo: 1}, {N: 65535, F: 2, Undo: 1}, {N: 1, F: 1, Undo: 1}, {N: 1, F: 5, Undo: 1}, {N: 1, F: 255, Undo: 1}, {N: 1, F: 2, Cow: 65, Undo: 1}, {N: 1, F: 2, Cow: 65535, Undo: 1}, {N: 1, F: 2}, {N: 1, F: 2, Undo: 321}, {N: 1, F: 2, Undo: 65535}} {
		refused(made(t, Super, bodyOfVolume(0, api.Config{Vol: 7, G: g, Last: 9})), api.ErrForm)
	}
	for _, last := range wrongLasts {
		refused(made(t, Super, bodyOfVolume(0, api.Config{Vol: 7, G: valid.G, Last: last})), api.ErrForm)
	}
}
