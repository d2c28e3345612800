package frame

import (
	"bytes"
	"encoding/binary"
	"hash/crc32"
	"math"
	"math/rand"
	"strings"
	"testing"

	"pentimento/api"
)

// text is n bytes, of which no two neighbours are alike.
func text(n int) string {
	b := make([]byte, n)
	for i := range b {
		b[i] = byte(i*37 + n)
	}
	return string(b)
}

// list is n digests.
func list(n int) []string {
	var l []string
	for i := range n {
		l = append(l, strings.Repeat(string(rune('a'+i)), 31)+"!")
	}
	return l
}

// sealed is bytes, and their checksum, by the library.
func sealed(b []byte) []byte {
	return binary.BigEndian.AppendUint32(bytes.Clone(b), crc32.Checksum(b, crc32.MakeTable(crc32.Castagnoli)))
}

// raw is what the document calls the encoding of a frame, with this head and this body, whether there is such a frame or not.
func raw(kind byte, session, epoch uint64, seq uint32, body string) []byte {
	b := []byte{kind}
	b = binary.BigEndian.AppendUint64(b, session)
	b = binary.BigEndian.AppendUint64(b, epoch)
	b = binary.BigEndian.AppendUint32(b, seq)
	b = binary.BigEndian.AppendUint16(b, uint16(len(body)))
	return sealed(append(b, body...))
}

// two is an integer in two bytes, four in four.
func two(n int) string        { return string(binary.BigEndian.AppendUint16(nil, uint16(n))) }
func four(n uint32) string    { return string(binary.BigEndian.AppendUint32(nil, n)) }
func bare(kind int) api.Frame { return api.Frame{Kind: kind} }

// pair is a frame and its body.
type pair struct {
	f    api.Frame
	body string
}

// bodies are frames of all kinds with the least, the most and other things that a body can have, and these bodies; without sessions, epochs and numbers.
func bodies() []pair {
	out := []pair{{f: bare(api.FrAck)}}
	for _, n := range []int{0, 1, 2, 127, 128, 200, 254, 255} {
		out = append(out, pair{api.Frame{Kind: api.FrRefuse, Code: n}, string([]byte{byte(n)})})
	}
	for _, n := range []int{0, 1, 255, 256, 258, 0x1234, 65534, 65535} {
		out = append(out,
			pair{api.Frame{Kind: api.FrAsk, Index: n}, two(n)},
			pair{api.Frame{Kind: api.FrWant, Index: n}, two(n)},
			pair{api.Frame{Kind: api.FrData, Index: n, Data: text(64)}, two(n) + text(64)},
			pair{api.Frame{Kind: api.FrData, Index: n, Data: strings.Repeat("\x00", 64)}, two(n) + strings.Repeat("\x00", 64)},
		)
		for k := range 5 {
			out = append(out, pair{api.Frame{Kind: api.FrNodes, Index: n, List: list(k)}, two(n) + string([]byte{byte(k)}) + strings.Join(list(k), "")})
		}
		for _, f := range []int{0, 1, 4, 255} {
			for _, vol := range []uint32{0, 1, 0x01020304, math.MaxUint32} {
				h := api.Frame{Kind: api.FrHello, Vol: vol, N: n, F: f, Data: text(32)}
				out = append(out, pair{h, four(vol) + two(n) + string([]byte{byte(f)}) + text(32)})
			}
		}
	}
	return out
}

// one is a frame of each kind, in which no field that is encoded is zero.
func one() []api.Frame {
	out := []api.Frame{
		{Kind: api.FrHello, Vol: 7, N: 5, F: 2, Data: text(32)},
		{Kind: api.FrRefuse, Code: 13},
		{Kind: api.FrAsk, Index: 9},
		{Kind: api.FrNodes, Index: 9, List: list(3)},
		{Kind: api.FrWant, Index: 4},
		{Kind: api.FrData, Index: 4, Data: text(64)},
		{Kind: api.FrAck},
	}
	for i := range out {
		out[i].Session, out[i].Epoch, out[i].Seq = 3, 1<<48, uint32(i+1)
	}
	return out
}

// like tells if two frames differ, field by field, without Alike.
func like(a, b api.Frame) bool {
	if len(a.List) != len(b.List) {
		return false
	}
	for i := range a.List {
		if a.List[i] != b.List[i] {
			return false
		}
	}
	return a.Kind == b.Kind && a.Session == b.Session && a.Epoch == b.Epoch && a.Seq == b.Seq && a.Vol == b.Vol &&
		a.N == b.N && a.F == b.F && a.Index == b.Index && a.Code == b.Code && a.Data == b.Data
}

// encodes tells if f's encoding is not this, or does not become f again.
func encodes(t *testing.T, f api.Frame, want []byte) {
	t.Helper()
	if b, why := Put(f); why != api.OK || !bytes.Equal(b, want) {
		t.Errorf("Put(%#v) = %x %d, want %x", f, b, why, want)
	}
	if g, why := Get(want); why != api.OK || !like(f, g) {
		t.Errorf("Get(%x) = %#v %d, want %#v", want, g, why, f)
	}
}

// unfit tells if f can be encoded.
func unfit(t *testing.T, f api.Frame) {
	t.Helper()
	if b, why := Put(f); len(b) != 0 || why != api.ErrForm {
		t.Errorf("Put(%#v) = %x %d, want ErrForm", f, b, why)
	}
}

// rejected tells if b is not rejected by this error, with nothing beside it.
func rejected(t *testing.T, b []byte, want api.Errno) {
	t.Helper()
	if f, why := Get(b); !like(f, api.Frame{}) || why != want {
		t.Errorf("Get(%x) = %#v %d, want %d", b, f, why, want)
	}
}

// P21.1: the document's example.
func TestExample(t *testing.T) {
	if b, why := Put(bare(api.FrAck)); len(b) != 27 || why != api.OK {
		t.Errorf("Put of an Ack = %x %d", b, why)
	}
}

// P21.1: an encoding, byte by byte.
func TestBytes(t *testing.T) {
	f := api.Frame{Kind: api.FrAsk, Session: 0x0102030405060708, Epoch: 0x1112131415161718, Seq: 0x21222324, Index: 0x3132}
	want := "\x03\x01\x02\x03\x04\x05\x06\x07\x08\x11\x12\x13\x14\x15\x16\x17\x18\x21\x22\x23\x24\x00\x02\x31\x32"
	encodes(t, f, sealed([]byte(want)))
}

// P21.1 and P21.2: Put of all kinds, at the limits of each field that is encoded, and Get of it.
func TestBodies(t *testing.T) {
	for _, p := range bodies() {
		encodes(t, p.f, raw(byte(p.f.Kind), 0, 0, 0, p.body))
		f := p.f
		f.Session, f.Epoch, f.Seq = 5, 1<<48, 77
		encodes(t, f, raw(byte(f.Kind), 5, 1<<48, 77, p.body))
	}
}

// P21.1 and P21.2: the integers of a head, at their limits, in frames of all kinds.
func TestHeads(t *testing.T) {
	wide := []uint64{0, 1, 255, 256, 1 << 32, 1<<48 + 1, 1 << 63, math.MaxUint64 - 1, math.MaxUint64}
	for _, p := range bodies() {
		for i, n := range wide {
			for _, seq := range []uint32{0, 1, 256, math.MaxUint32} {
				f := p.f
				f.Session, f.Epoch, f.Seq = n, wide[len(wide)-1-i], seq
				encodes(t, f, raw(byte(f.Kind), f.Session, f.Epoch, seq, p.body))
			}
		}
	}
}

// P21.1: kinds of which there are no frames.
func TestPutKinds(t *testing.T) {
	for _, kind := range []int{0, -1, -7, 8, 9, 255, 256, 257, 263, 1<<32 + 7, 1<<63 - 1, math.MinInt, math.MinInt + 7} {
		unfit(t, bare(kind))
		for _, f := range one() {
			f.Kind = kind
			unfit(t, f)
		}
	}
}

// P21.1: integers that their bytes do not hold, whatever these would make of them.
func TestPutIntegers(t *testing.T) {
	for _, n := range []int{-1, -2, -255, -256, -65535, -65536, 1 << 32, 1<<32 + 1, -1 << 32, math.MaxInt, math.MinInt, math.MinInt + 1, 65536, 65537, 65545, 1 << 24} {
		for _, f := range one() {
			switch f.Kind {
			case api.FrHello:
				g := f
				g.N = n
				unfit(t, g)
				f.F = n
			case api.FrRefuse:
				f.Code = n
			case api.FrAck:
				continue
			default:
				f.Index = n
			}
			unfit(t, f)
		}
	}
	for _, n := range []int{256, 257, 258, 511, 512, 65535} {
		hello, refuse := one()[0], one()[1]
		hello.F, refuse.Code = n, n
		unfit(t, hello)
		unfit(t, refuse)
	}
}

// P21.1: Data that is no digest in a Hello, no sector in a Data.
func TestPutData(t *testing.T) {
	for n := range 200 {
		hello, data := one()[0], one()[5]
		hello.Data, data.Data = text(n), text(n)
		if n != 32 {
			unfit(t, hello)
		}
		if n != 64 {
			unfit(t, data)
		}
	}
	for _, n := range []int{65535, 65536, 65536 + 32, 65536 + 64, 65536 + 25, 1 << 20} {
		hello, data := one()[0], one()[5]
		hello.Data, data.Data = text(n), text(n)
		unfit(t, hello)
		unfit(t, data)
	}
}

// P21.1: lists of too many elements, and of such as are no digests, also where all of them together have as many bytes as digests.
func TestPutLists(t *testing.T) {
	for _, n := range []int{5, 6, 7, 8, 100, 255, 256, 257, 258, 260, 512, 2048, 2049} {
		f := one()[3]
		f.List = make([]string, n)
		unfit(t, f)
		for i := range f.List {
			f.List[i] = text(32)
		}
		unfit(t, f)
	}
	for _, wrong := range []string{"", "a", text(16), text(31), text(33), text(64), text(65), text(65536 + 32)} {
		for n := 1; n <= 4; n++ {
			for i := range n {
				f := one()[3]
				f.List = list(n)
				f.List[i] = wrong
				unfit(t, f)
			}
		}
	}
	for _, l := range [][]string{{text(31), text(33)}, {text(33), text(31)}, {text(64), ""}, {"", text(64)}, {"", text(32), text(64)}, {text(0), text(0)}} {
		f := one()[3]
		f.List = l
		unfit(t, f)
	}
}

// P21.1: a field that its kind does not encode is zero, or the frame can't be encoded.
func TestPutOthers(t *testing.T) {
	has := map[int]string{api.FrHello: "VNFD", api.FrRefuse: "C", api.FrAsk: "I", api.FrNodes: "IL", api.FrWant: "I", api.FrData: "ID", api.FrAck: ""}
	for _, f := range one() {
		for _, n := range []int{1, -1, 2, 256, 65536, math.MaxInt, math.MinInt} {
			for what, g := range map[string]api.Frame{
				"V": {Vol: uint32(n | 1)}, "N": {N: n}, "F": {F: n}, "C": {Code: n}, "I": {Index: n},
				"D": {Data: text(n & 127)}, "L": {List: list(n & 3)},
			} {
				if strings.Contains(has[f.Kind], what) || g.Data == "" && what == "D" || len(g.List) == 0 && what == "L" {
					continue
				}
				h := f
				h.Vol += g.Vol
				h.N += g.N
				h.F += g.F
				h.Code += g.Code
				h.Index += g.Index
				h.Data += g.Data
				h.List = append(h.List, g.List...)
				unfit(t, h)
			}
		}
		for _, s := range []string{text(1), text(32), text(64), "\x00"} {
			if !strings.Contains(has[f.Kind], "D") {
				g := f
				g.Data = s
				unfit(t, g)
			}
			if !strings.Contains(has[f.Kind], "L") {
				g := f
				g.List = []string{s}
				unfit(t, g)
			}
		}
	}
}

// P21.1: an empty list is none, to Put and to Alike.
func TestEmptyList(t *testing.T) {
	for _, f := range one() {
		g := f
		if f.Kind == api.FrNodes {
			f.List, g.List = nil, nil
		}
		g.List = []string{}
		a, why := Put(f)
		b, also := Put(g)
		if why != api.OK || also != api.OK || !bytes.Equal(a, b) || !Alike(f, g) || !Alike(g, f) {
			t.Errorf("kind %d: with an empty list %x %d, without one %x %d, alike %t", f.Kind, b, also, a, why, Alike(f, g))
		}
		// A list that has an element has one, though this be empty.
		g.List = []string{""}
		unfit(t, g)
		if Alike(f, g) || Alike(g, f) {
			t.Errorf("kind %d: a list of an empty string is alike to no list", f.Kind)
		}
	}
}

// P21.1: too few bytes are ErrShort, whatever they are.
func TestGetShort(t *testing.T) {
	rejected(t, nil, api.ErrShort)
	for n := range 27 {
		rejected(t, make([]byte, n), api.ErrShort)
		rejected(t, bytes.Repeat([]byte{255}, n), api.ErrShort)
		rejected(t, []byte(text(n)), api.ErrShort)
	}
	// A body's length counts, also where kind and sum are wrong; one byte is missing, or all of the body.
	for _, length := range []int{1, 2, 39, 66, 131, 255, 256, 1000, 65535} {
		for _, kind := range []byte{0, 1, 7, 255} {
			b := raw(kind, 1, 2, 3, text(length))
			rejected(t, b[:len(b)-1], api.ErrShort)
			rejected(t, b[:27], api.ErrShort)
			rejected(t, sealed(b[:23]), api.ErrShort)
			rejected(t, sealed(b[:22+length]), api.ErrShort)
		}
	}
}

// P21.1: too many bytes are ErrLong, also where sum and kind are wrong.
func TestGetLong(t *testing.T) {
	for _, length := range []int{0, 1, 2, 39, 66, 131, 255, 256, 65535} {
		for _, kind := range []byte{0, 1, 7, 255} {
			b := raw(kind, 1, 2, 3, text(length))
			for _, more := range []int{1, 2, 4, 27, 256, 65536, 100000} {
				rejected(t, append(bytes.Clone(b), text(more)...), api.ErrLong)
				rejected(t, sealed(append(bytes.Clone(b), make([]byte, more)...)), api.ErrLong)
			}
		}
	}
	for _, f := range one() {
		b, _ := Put(f)
		rejected(t, append(bytes.Clone(b), b...), api.ErrLong)
	}
}

// P21.1: a wrong sum is ErrSum, also where there would be no such frame.
func TestGetSum(t *testing.T) {
	for kind := range 256 {
		for _, body := range []string{"", "\x01", "\x00\x01", text(39), text(66), text(300)} {
			b := raw(byte(kind), 1, 2, 3, body)
			end := len(b) - 4
			for _, sum := range [][]byte{
				{b[end], b[end+1], b[end+2], b[end+3] ^ 1},
				{b[end] ^ 128, b[end+1], b[end+2], b[end+3]},
				{b[end+3], b[end+2], b[end+1], b[end]},
				{^b[end], ^b[end+1], ^b[end+2], ^b[end+3]},
				{0, 0, 0, 0},
			} {
				rejected(t, append(bytes.Clone(b[:end]), sum...), api.ErrSum)
			}
		}
	}
	rejected(t, make([]byte, 27), api.ErrSum)
}

// fits tells, by the document's words, whether a kind has such a body.
func fits(kind int, body string) bool {
	switch kind {
	case 1:
		return len(body) == 4+2+1+32
	case 2:
		return len(body) == 1
	case 3, 5:
		return len(body) == 2
	case 4:
		return len(body) >= 3 && body[2] <= 4 && len(body) == 3+32*int(body[2])
	case 6:
		return len(body) == 2+64
	}
	return kind == 7 && body == ""
}

// P21.1 and P21.2: bodies of all lengths, and of all numbers of digests, for all kinds: there is such a frame, which is encoded as the same bytes, or ErrForm.
func TestGetForm(t *testing.T) {
	accepted := 0
	tells := func(kind int, body string) {
		b := raw(byte(kind), 9, 1<<40, 2, body)
		if !fits(kind, body) {
			rejected(t, b, api.ErrForm)
			return
		}
		accepted++
		f, why := Get(b)
		if why != api.OK || f.Kind != kind || f.Session != 9 || f.Epoch != 1<<40 || f.Seq != 2 {
			t.Fatalf("Get(%x) = %#v %d", b, f, why)
		}
		if again, why := Put(f); why != api.OK || !bytes.Equal(again, b) {
			t.Fatalf("Put(%#v) = %x %d, want %x", f, again, why, b)
		}
	}
	for kind := range 256 {
		for n := range 140 {
			if kind < 10 || n < 3 || n == 39 || n == 66 {
				tells(kind, text(n))
				tells(kind, strings.Repeat("\x00", n))
			}
		}
	}
	for count := range 256 {
		for k := range 10 {
			tells(4, "\x01\x02"+string([]byte{byte(count)})+strings.Repeat(text(32), k))
		}
		tells(4, "\x01\x02"+string([]byte{byte(count)})+strings.Repeat(text(32), count))
		tells(4, "\x01\x02"+string([]byte{byte(count)})+strings.Repeat(text(32), count)+"x")
		tells(4, "\x01\x02"+string([]byte{byte(count)})+strings.Repeat(text(32), count)[min(1, count):])
	}
	for _, n := range []int{256, 65535} {
		for kind := range 10 {
			tells(kind, text(n))
		}
	}
	if accepted < 20 {
		t.Errorf("%d were accepted", accepted)
	}
}

// P21.2: random bytes with a right sum.
func TestRandom(t *testing.T) {
	r := rand.New(rand.NewSource(21))
	lengths := []int{0, 1, 2, 3, 35, 39, 66, 67, 99, 131}
	for range 20000 {
		body := make([]byte, lengths[r.Intn(len(lengths))])
		r.Read(body)
		if len(body) > 2 && r.Intn(2) == 0 {
			body[2] = byte(r.Intn(6))
		}
		kind := byte(r.Intn(9))
		b := raw(kind, r.Uint64(), r.Uint64(), r.Uint32(), string(body))
		f, why := Get(b)
		if !fits(int(kind), string(body)) {
			rejected(t, b, api.ErrForm)
			continue
		}
		if why != api.OK {
			t.Fatalf("Get(%x) = %d", b, why)
		}
		encodes(t, f, b)
	}
}

// P21.3: bytes of which one is changed, in each way, and truncated bytes, at each length.
func TestChanged(t *testing.T) {
	for _, f := range append(one(), bare(api.FrAck), bare(api.FrNodes), bare(api.FrAsk)) {
		b, why := Put(f)
		if why != api.OK {
			t.Fatalf("Put(%#v) = %d", f, why)
		}
		for i := range b {
			for change := 1; change < 256; change++ {
				wrong := bytes.Clone(b)
				wrong[i] ^= byte(change)
				want := api.ErrSum
				if i == 21 || i == 22 && int(wrong[22]) > len(b)-27 {
					want = api.ErrShort
				} else if i == 22 {
					want = api.ErrLong
				}
				rejected(t, wrong, want)
			}
		}
		for n := range b {
			rejected(t, b[:n], api.ErrShort)
		}
	}
}

// P21.1: Alike, of frames that differ in one field, and of such as differ in none.
func TestAlike(t *testing.T) {
	frames := append(one(), api.Frame{}, api.Frame{Kind: -1, N: -1, F: math.MinInt, Index: math.MaxInt, Code: 1 << 40, Data: "a", List: []string{"", "b"}})
	for _, f := range frames {
		same := f
		same.List = append([]string{}, f.List...)
		if !Alike(f, f) || !Alike(f, same) || !Alike(same, f) {
			t.Errorf("%#v is not alike to itself", f)
		}
		for i, change := range []func(*api.Frame){
			func(g *api.Frame) { g.Kind++ }, func(g *api.Frame) { g.Session++ }, func(g *api.Frame) { g.Epoch += 1 << 63 },
			func(g *api.Frame) { g.Seq++ }, func(g *api.Frame) { g.Vol++ }, func(g *api.Frame) { g.N += 1 << 32 },
			func(g *api.Frame) { g.F += 256 }, func(g *api.Frame) { g.Index-- }, func(g *api.Frame) { g.Code ^= 1 },
			func(g *api.Frame) { g.Data += "\x00" }, func(g *api.Frame) { g.List = append(g.List[:len(g.List):len(g.List)], "") },
			func(g *api.Frame) { g.List = append([]string{"x"}, g.List...) },
		} {
			g := same
			change(&g)
			if Alike(f, g) || Alike(g, f) {
				t.Errorf("%#v is alike to %#v (change %d)", f, g, i)
			}
		}
	}
	a, b := one()[3], one()[3]
	b.List[2] += "x"
	c := one()[3]
	c.List[0], c.List[1] = c.List[1], c.List[0]
	if Alike(a, b) || Alike(a, c) {
		t.Errorf("frames of other lists are alike")
	}
	for i, f := range one() {
		for k, g := range one() {
			if Alike(f, g) != (i == k) {
				t.Errorf("Alike(%#v, %#v) = %t", f, g, Alike(f, g))
			}
		}
	}
}

// Rules 3 to 5: arguments are not changed, nor kept, and results are new.
func TestMemory(t *testing.T) {
	f := one()[3]
	b, _ := Put(f)
	again, _ := Put(f)
	if !like(f, one()[3]) {
		t.Errorf("Put made %#v of its argument", f)
	}
	kept := bytes.Clone(b)
	g, _ := Get(b)
	if !bytes.Equal(b, kept) {
		t.Errorf("Get made %x of its argument", b)
	}
	for i := range b {
		b[i] = 0
	}
	f.List[0] = ""
	if !bytes.Equal(again, kept) || !like(g, one()[3]) {
		t.Errorf("writing into an argument changed %x, %#v", again, g)
	}
	h, _ := Get(again)
	h.List[0] = ""
	_ = append(h.List[:1], "x", "y", "z", "w")
	if i, _ := Get(again); !like(i, one()[3]) || !like(g, one()[3]) {
		t.Errorf("writing into a result changed %#v, %#v", g, i)
	}
}
