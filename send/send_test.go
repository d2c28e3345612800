package send

import (
	"math"
	"math/rand"
	"slices"
	"strings"
	"testing"

	"pentimento/api"
	"pentimento/disk"
	"pentimento/geom"
	"pentimento/origin"
	"pentimento/sector"
)

// few are some valid volumes: the least and the greatest, of several trees, with and without room to preserve.
func few() []api.Config {
	return []api.Config{
		{Vol: 0, G: api.Geom{N: 1, F: 2, Undo: 1}, Last: 100},
		{Vol: 1, G: api.Geom{N: 1, F: 4, Cow: 2, Undo: 3}, Last: 100},
		{Vol: 7, G: api.Geom{N: 3, F: 2, Cow: 1, Undo: 5}, Last: api.MaxEpoch},
		{Vol: math.MaxUint32, G: api.Geom{N: 5, F: 2, Cow: 3, Undo: 16}, Last: 1000},
		{Vol: 1 << 31, G: api.Geom{N: 9, F: 3, Cow: 7, Undo: 4}, Last: 1 << 40},
		{Vol: 3, G: api.Geom{N: 17, F: 4, Cow: 17, Undo: 40}, Last: 1000},
		{Vol: 0x01020304, G: api.Geom{N: 128, F: 2, Cow: 64, Undo: 320}, Last: api.MaxEpoch},
	}
}

// usual is a volume of a few sectors, with a tree of 5, 3, 2 and 1 nodes.
func usual() api.Config {
	return api.Config{Vol: 5, G: api.Geom{N: 5, F: 2, Cow: 3, Undo: 16}, Last: 100}
}

// unfit are numbers of nothing.
func unfit() []int { return []int{-1, -2, math.MinInt, math.MaxInt, 1 << 16, -1 << 32} }

// contents are n sectors, each with bytes of its own.
func contents(n int, c byte) []string {
	var out []string
	for i := range n {
		out = append(out, strings.Repeat(string([]byte{c, byte(i), 0xff, c ^ 0x5a}), 16))
	}
	return out
}

// held is a sender, the disk of its volume, and the model of it on a copy.
type held struct {
	*testing.T
	s *Sender
	d *disk.Disk
	m *model
}

// started is a sender of a volume with sectors of their own bytes.
func started(t *testing.T, c api.Config) *held {
	t.Helper()
	d := made(t, geom.Size(c.G, api.Source))
	first := contents(c.G.N, 1)
	if why := origin.Format(d, c, first...); why != api.OK {
		t.Fatalf("Format = %d", why)
	}
	return onDisk(t, d, c, first)
}

// onDisk is a sender of the volume that a disk has, which has these sectors.
func onDisk(t *testing.T, d *disk.Disk, c api.Config, sectors []string) *held {
	t.Helper()
	m := &model{c: c, d: d.Copy(), now: slices.Clone(sectors), shot: slices.Clone(sectors)}
	m.v = opened(t, m.d)
	return &held{t, New(opened(t, d)), d, m}
}

// offered is a sender whose first epoch is sealed, and in a session.
func offered(t *testing.T, c api.Config) *held {
	t.Helper()
	h := started(t, c)
	h.seal()
	h.connect(api.OK)
	return h
}

// agree tells if the sender, or its disk, is not as the model is.
func (h *held) agree(what string) {
	h.Helper()
	same(h.T, what, h.d, h.m.d)
	if s := h.s.State(); s != h.m.state {
		h.Fatalf("%s: State = %+v, want %+v", what, s, h.m.state)
	}
}

// has tells if frames are not those that should be.
func (h *held) has(what string, out, want []api.Frame) {
	h.Helper()
	if !slices.EqualFunc(out, want, alike) {
		h.Fatalf("%s = %+v, want %+v", what, out, want)
	}
}

// seal seals an epoch on both.
func (h *held) seal() {
	h.Helper()
	for _, v := range []*origin.Volume{h.s.Volume(), h.m.v} {
		if _, why := v.Seal(); why != api.OK {
			h.Fatalf("Seal = %d", why)
		}
	}
	h.m.shot = slices.Clone(h.m.now)
}

// write writes a sector on both.
func (h *held) write(i int, data string) {
	h.Helper()
	for _, v := range []*origin.Volume{h.s.Volume(), h.m.v} {
		if why := v.Write(i, data); why != api.OK {
			h.Fatalf("Write(%d) = %d", i, why)
		}
	}
	h.m.now[i] = data
}

// ack acknowledges an epoch on both, not by a frame.
func (h *held) ack(epoch uint64) {
	h.Helper()
	for _, v := range []*origin.Volume{h.s.Volume(), h.m.v} {
		if why := v.Ack(epoch); why != api.OK {
			h.Fatalf("Ack(%d) = %d", epoch, why)
		}
	}
}

// connect begins a session, and tells if that does not end so, or not as the model's.
func (h *held) connect(want api.Errno) api.Frame {
	h.Helper()
	f, why := h.s.Connect()
	g, is := h.m.connect()
	if why != want || is != want || !alike(f, g) {
		h.Fatalf("Connect = %+v %d, want %+v %d, and %d", f, why, g, is, want)
	}
	h.agree("Connect")
	return f
}

// take has a frame come, and tells if that does not end so, or not as the model's.
func (h *held) take(f api.Frame, want api.Errno) []api.Frame {
	h.Helper()
	g := f
	g.List = slices.Clone(f.List)
	out, why := h.s.Take(f)
	frames, is := h.m.take(g)
	if why != want || is != want {
		h.Fatalf("Take(%+v) = %+v %d, want %d, and %d", f, out, why, is, want)
	}
	h.has("Take", out, frames)
	h.agree("Take")
	if !alike(f, g) {
		h.Fatalf("Take made %+v of %+v", f, g)
	}
	return out
}

// tick ticks, and tells if that is not as the model's, or not so many frames.
func (h *held) tick(n int) []api.Frame {
	h.Helper()
	out := h.s.Tick()
	h.has("Tick", out, h.m.tick())
	if len(out) != n {
		h.Fatalf("Tick = %+v, want %d frames", out, n)
	}
	h.agree("Tick")
	return out
}

// frame is one of the session, with this kind and index.
func (h *held) frame(kind, index int) api.Frame {
	return api.Frame{Kind: kind, Session: h.m.state.Session, Epoch: h.m.state.Epoch, Index: index}
}

// phase tells if the sender's is not this one.
func (h *held) phase(want int) {
	h.Helper()
	if s := h.s.State(); s.Phase != want {
		h.Fatalf("State = %+v, want phase %d", s, want)
	}
}

// The document's example.
func TestExample(t *testing.T) {
	h := started(t, usual())
	if f, why := h.s.Connect(); !alike(f, api.Frame{}) || why != api.ErrSnap {
		t.Errorf("Connect = %+v %d", f, why)
	}
}

// Without a sender, and without a volume, there is nothing.
func TestNone(t *testing.T) {
	for _, s := range []*Sender{nil, New(nil), {}} {
		for kind := -1; kind < 10; kind++ {
			if out, why := s.Take(api.Frame{Kind: kind}); len(out) > 0 || why != api.ErrNil {
				t.Errorf("Take = %v %d", out, why)
			}
		}
		if f, why := s.Connect(); !alike(f, api.Frame{}) || why != api.ErrNil {
			t.Errorf("Connect = %v %d", f, why)
		}
		if out := s.Tick(); len(out) > 0 {
			t.Errorf("Tick = %v", out)
		}
		if s.State() != (State{}) || s.Volume() != nil {
			t.Errorf("State = %v, Volume = %v", s.State(), s.Volume())
		}
	}
	if New(nil) == nil {
		t.Error("New(nil) = nil")
	}
}

// A volume that was not opened has no snapshot.
func TestZeroVolume(t *testing.T) {
	s := New(&origin.Volume{})
	if f, why := s.Connect(); !alike(f, api.Frame{}) || why != api.ErrSnap {
		t.Errorf("Connect = %v %d", f, why)
	}
	if out, why := s.Take(api.Frame{Kind: api.FrAsk}); len(out) > 0 || why != api.ErrSession {
		t.Errorf("Take = %v %d", out, why)
	}
	if out := s.Tick(); len(out) > 0 || s.State() != (State{}) {
		t.Errorf("Tick = %v, State = %v", out, s.State())
	}
}

// The phases' numbers are the document's.
func TestPhases(t *testing.T) {
	if Idle != 0 || Open != 1 || Done != 2 || Refused != 3 {
		t.Error(Idle, Open, Done, Refused)
	}
}

// P23.1, P23.2, P23.3: a new sender is Idle, has its volume, and no session: each frame is one of another session.
func TestNew(t *testing.T) {
	for _, c := range few() {
		h := started(t, c)
		for _, sealed := range []bool{false, true} {
			if sealed {
				h.seal()
			}
			v := h.s.Volume()
			s := New(v)
			if s.State() != (State{Phase: Idle}) || s.Volume() != v || v == nil {
				t.Fatalf("State = %+v, Volume = %v", s.State(), s.Volume())
			}
			for kind := -1; kind < 10; kind++ {
				h.take(api.Frame{Kind: kind}, api.ErrSession)
				h.take(api.Frame{Kind: kind, Session: 1<<16 + 1, Epoch: 1}, api.ErrSession)
			}
			h.tick(0)
		}
	}
}

// P23.1: Connect offers the epoch of the snapshot, in all fields, whatever was written since; the number of the session tells the starts and the sessions.
func TestConnect(t *testing.T) {
	for _, c := range few() {
		h := started(t, c)
		h.seal()
		h.write(0, sector.Mix(1))
		h.seal()
		if h.s.Volume().State().Open != 2 {
			t.Fatal("no snapshot")
		}
		want := api.Frame{Kind: 1, Session: 0x10001, Epoch: 2, Vol: c.Vol, N: c.G.N, F: c.G.F, Data: root(c.G, h.m.now)}
		if f := h.connect(api.OK); !alike(f, want) {
			t.Fatalf("Connect = %+v, want %+v", f, want)
		}
		if s := h.s.State(); s != (State{Session: 0x10001, Epoch: 2, Phase: Open}) {
			t.Fatalf("State = %+v", s)
		}
		if c.G.Cow > 0 {
			h.write(0, sector.Mix(2))
		}
		want.Session++
		if f := h.connect(api.OK); !alike(f, want) {
			t.Fatalf("Connect = %+v, want %+v", f, want)
		}
		h.tick(1)
		h.seal()
		want.Session, want.Epoch, want.Data = want.Session+1, 3, root(c.G, h.m.now)
		if f := h.connect(api.OK); !alike(f, want) {
			t.Fatalf("Connect = %+v, want %+v", f, want)
		}
	}
}

// P23.1: the sessions are counted from New on, and the starts are those of the volume.
func TestConnectStarts(t *testing.T) {
	h := started(t, usual())
	h.seal()
	for start := uint64(1); start < 5; start++ {
		for n := uint64(1); n < 4; n++ {
			if f := h.connect(api.OK); f.Session != start<<16+n || f.Seq != 0 {
				t.Fatalf("session %x, number %d", f.Session, f.Seq)
			}
			h.tick(1)
		}
		if f, why := New(h.s.Volume()).Connect(); f.Session != start<<16+1 || why != api.OK {
			t.Fatalf("session %x", f.Session)
		}
		h = onDisk(t, h.d, h.m.c, h.m.now)
	}
}

// P23.1: a great number of starts is in the session's number as far as that has room.
func TestConnectGreat(t *testing.T) {
	for starts, want := range map[uint64]uint64{
		1<<40 - 1:          1<<56 + 1,
		1<<48 - 2:          (1<<48-1)<<16 + 1,
		1<<48 - 1:          1,
		1<<48 + 5:          6<<16 + 1,
		math.MaxUint64 - 1: (1<<48-1)<<16 + 1,
		math.MaxUint64:     1,
	} {
		h := started(t, usual())
		h.seal()
		h.d.Write(1, raw(2, num(8, 8)+num(8, starts)))
		h = onDisk(t, h.d, h.m.c, h.m.now)
		if f := h.connect(api.OK); f.Session != want {
			t.Errorf("session %x behind %x starts, want %x", f.Session, starts, want)
		}
		h.take(h.frame(api.FrWant, 0), api.OK)
	}
}

// P23.1: Connect needs a snapshot. Without one it changes nothing: what is there of an older session goes on.
func TestConnectSnap(t *testing.T) {
	h := started(t, usual())
	h.connect(api.ErrSnap)
	h.write(1, sector.Fill(9))
	h.connect(api.ErrSnap)
	h.seal()
	h.connect(api.OK)
	h.tick(1)
	h.ack(1)
	h.connect(api.ErrSnap)
	h.phase(Open)
	h.take(h.frame(api.FrRefuse, 0), api.OK)
	h.connect(api.ErrSnap)
	h.phase(Refused)

	h.seal()
	h.connect(api.OK)
	for i := range 4 {
		h.write(i, sector.Mix(uint64(i)))
	}
	h.connect(api.ErrSnap)
	h.take(h.frame(api.FrAck, 0), api.OK)
	h.connect(api.ErrSnap)
	h.phase(Done)
	h.seal()
	if f := h.connect(api.OK); f.Session != 0x10003 {
		t.Errorf("session %x", f.Session)
	}
}

// P23.1: there are 65535 sessions; no more, but of a new sender. That changes nothing; ErrSnap comes first.
func TestConnectFull(t *testing.T) {
	h := offered(t, usual())
	for range 65534 {
		if _, why := h.s.Connect(); why != api.OK {
			t.Fatalf("Connect = %d", why)
		}
		h.m.connect()
	}
	h.connect(api.ErrFull)
	if s := h.s.State(); s != (State{Session: 0x1ffff, Epoch: 1, Phase: Open}) {
		t.Fatalf("State = %+v", s)
	}
	if f := h.tick(1)[0]; f.Seq != 1 {
		t.Errorf("number %d", f.Seq)
	}
	h.take(h.frame(api.FrWant, 2), api.OK)
	h.connect(api.ErrFull)
	h.ack(1)
	h.connect(api.ErrSnap)
	h.seal()
	h.connect(api.ErrFull)
	if f, why := New(h.s.Volume()).Connect(); why != api.OK || f.Session != 0x10001 {
		t.Errorf("Connect = %+v %d", f, why)
	}
}

// P23.2: Ask is answered for each node with children, and no other, by their digests at the seal.
func TestAsk(t *testing.T) {
	for _, c := range few() {
		h := started(t, c)
		h.write(0, sector.Mix(5))
		h.seal()
		h.connect(api.OK)
		if c.G.Cow > 0 {
			h.write(c.G.N-1, sector.Mix(6))
		}
		tree, all := below(c.G), digests(c.G, h.m.shot)
		seq := uint32(1)
		for node, children := range tree {
			if len(children) == 0 {
				h.take(h.frame(api.FrAsk, node), api.ErrRange)
				continue
			}
			want := api.Frame{Kind: api.FrNodes, Session: 0x10001, Epoch: 1, Seq: seq, Index: node, List: parts(all, children)}
			h.has("Take", h.take(h.frame(api.FrAsk, node), api.OK), []api.Frame{want})
			seq++
		}
		for _, node := range append(unfit(), len(tree), len(tree)+1) {
			h.take(h.frame(api.FrAsk, node), api.ErrRange)
		}
		h.phase(Open)
	}
}

// P23.2: Want is answered for each data sector, and no other, as it was at the seal, whatever was written since.
func TestWant(t *testing.T) {
	for _, c := range few() {
		h := offered(t, c)
		for i := range min(c.G.Cow, c.G.N) {
			h.write(i, sector.Mix(uint64(i)))
		}
		for i, data := range contents(c.G.N, 1) {
			want := api.Frame{Kind: api.FrData, Session: 0x10001, Epoch: 1, Seq: uint32(i + 1), Index: i, Data: data}
			h.has("Take", h.take(h.frame(api.FrWant, i), api.OK), []api.Frame{want})
		}
		for _, i := range append(unfit(), c.G.N, c.G.N+1) {
			h.take(h.frame(api.FrWant, i), api.ErrRange)
		}
		h.phase(Open)
	}
}

// P23.2: what a frame has beside its kind, session, epoch and index is of no account.
func TestOtherFields(t *testing.T) {
	h := offered(t, usual())
	for _, kind := range []int{api.FrAsk, api.FrWant, api.FrAck} {
		index := map[int]int{api.FrAsk: 10, api.FrWant: 4}[kind]
		f := api.Frame{Kind: kind, Session: 0x10001, Epoch: 1, Seq: 77, Vol: 1, N: -3, F: 9, Index: index, Code: 5, Data: "x", List: []string{"a", "b"}}
		h.take(f, api.OK)
	}
}

// P23.2: the digests are read in order, and the first error ends that; nothing is changed by it.
func TestAskDisk(t *testing.T) {
	c := usual()
	h := offered(t, c)
	// Of node 6, whose children are 2 and 3, and of node 10, whose children are 8 and 9.
	for at, data := range map[int]string{
		geom.Node(c.G, 2): sector.Fill(1),
		geom.Node(c.G, 3): raw(1, ""),
		geom.Node(c.G, 9): raw(6, "xy"),
	} {
		if why := h.d.Write(at, data); why != api.OK {
			t.Fatalf("Write = %d", why)
		}
	}
	rejects := func(node int, want api.Errno) {
		t.Helper()
		if out, why := h.s.Take(h.frame(api.FrAsk, node)); len(out) > 0 || why != want {
			t.Fatalf("Take = %+v %d, want %d", out, why, want)
		}
		if s := h.s.State(); s != h.m.state {
			t.Fatalf("State = %+v, want %+v", s, h.m.state)
		}
	}
	_, first := h.s.Volume().Node(2)
	_, second := h.s.Volume().Node(3)
	_, third := h.s.Volume().Node(9)
	if first == api.OK || second == api.OK || third == api.OK || first == second {
		t.Fatal(first, second, third)
	}
	rejects(6, first)
	rejects(10, third)
	h.d.Write(geom.Node(c.G, 2), raw(6, num(2, 2)+strings.Repeat("d", 32)))
	rejects(6, second)
	out, why := h.s.Take(h.frame(api.FrAsk, 5))
	if why != api.OK || len(out) != 1 || out[0].Seq != 1 || !slices.Equal(out[0].List, parts(digests(c.G, h.m.shot), []int{0, 1})) {
		t.Errorf("Take = %+v %d", out, why)
	}
}

// P23.2: so it is with a disk that is down; what is preserved is told nevertheless, and what is in no need of the disk.
func TestDown(t *testing.T) {
	h := offered(t, usual())
	h.write(3, sector.Fill(3))
	h.d.Crash()
	h.m.d.Crash()
	h.take(h.frame(api.FrAsk, 10), api.ErrDown)
	h.take(h.frame(api.FrAsk, 2), api.ErrRange)
	h.take(h.frame(api.FrWant, 0), api.ErrDown)
	h.take(h.frame(api.FrWant, 5), api.ErrRange)
	h.take(h.frame(api.FrWant, 3), api.OK)
	h.take(h.frame(api.FrAck, 0), api.ErrDown)
	h.phase(Open)
	h.tick(1)
	h.connect(api.OK)
	h.take(h.frame(api.FrRefuse, 0), api.OK)
}

// P23.2: an Ack is the volume's: that has it acknowledged and its snapshot closed. The session is done.
func TestAck(t *testing.T) {
	for _, c := range few() {
		h := offered(t, c)
		if out := h.take(h.frame(api.FrAck, 0), api.OK); len(out) > 0 {
			t.Fatalf("Take = %+v", out)
		}
		if s := h.s.State(); s != (State{Session: 0x10001, Epoch: 1, Phase: Done}) {
			t.Fatalf("State = %+v", s)
		}
		if v := h.s.Volume().State(); v.Acked != 1 || v.Open != 0 {
			t.Fatalf("volume %+v", v)
		}
		for kind := -1; kind < 10; kind++ {
			h.take(h.frame(kind, 0), api.ErrState)
		}
		h.tick(0)
		h.connect(api.ErrSnap)
		h.phase(Done)
	}
}

// P23.2: the disk goes down at each write and flush of an Ack: the session stays as it is.
func TestAckFuse(t *testing.T) {
	for fuse := 0; ; fuse++ {
		h := offered(t, usual())
		h.d.Fuse(fuse)
		h.m.d.Fuse(fuse)
		// The record and the map are a write and a flush each.
		if fuse == 4 {
			h.take(h.frame(api.FrAck, 0), api.OK)
			h.phase(Done)
			return
		}
		h.take(h.frame(api.FrAck, 0), api.ErrDown)
		h.phase(Open)
	}
}

// P23.2, P23.3: a Refuse ends the session, and its code is told until the next one, whatever it is.
func TestRefuse(t *testing.T) {
	for _, code := range []int{0, 1, int(api.ErrUndo), 255, -1, math.MinInt, math.MaxInt} {
		h := offered(t, usual())
		f := h.frame(api.FrRefuse, 0)
		f.Code = code
		if out := h.take(f, api.OK); len(out) > 0 {
			t.Fatalf("Take = %+v", out)
		}
		if s := h.s.State(); s != (State{Session: 0x10001, Epoch: 1, Phase: Refused, Code: code}) {
			t.Fatalf("State = %+v", s)
		}
		for kind := -1; kind < 10; kind++ {
			h.take(h.frame(kind, 0), api.ErrState)
		}
		h.tick(0)
		h.connect(api.OK)
		if s := h.s.State(); s != (State{Session: 0x10002, Epoch: 1, Phase: Open}) {
			t.Fatalf("State = %+v", s)
		}
	}
}

// P23.2: frames that are not for a source change nothing.
func TestKinds(t *testing.T) {
	h := offered(t, usual())
	for _, kind := range append(unfit(), 0, api.FrHello, api.FrNodes, api.FrData, 8, 9) {
		h.take(h.frame(kind, 0), api.ErrKind)
		h.take(h.frame(kind, 10), api.ErrKind)
		h.phase(Open)
	}
	// That is so whether the epoch is lost or not.
	h.seal()
	h.take(h.frame(api.FrHello, 0), api.ErrKind)
	h.phase(Open)
}

// lose are the ways to lose epoch 1.
func lose() map[string]func(h *held) {
	return map[string]func(h *held){
		"another seal": func(h *held) { h.seal() },
		"no room": func(h *held) {
			for i := range h.m.c.G.N {
				h.write(i, sector.Fill(1))
			}
		},
		"an Ack of a session that was before": func(h *held) { h.ack(1) },
	}
}

// P23.2, P23.3: when the epoch is lost, the next Ask, Want or Tick makes the session Idle; it is known still.
func TestLost(t *testing.T) {
	for what, gone := range lose() {
		for _, index := range []int{0, 4, 5, 10, 11, -1, math.MaxInt} {
			for _, kind := range []int{api.FrAsk, api.FrWant} {
				h := offered(t, usual())
				gone(h)
				h.phase(Open)
				h.take(h.frame(kind, index), api.ErrSnap)
				if s := h.s.State(); s != (State{Session: 0x10001, Epoch: 1, Phase: Idle}) {
					t.Fatalf("%s: State = %+v", what, s)
				}
				for kind := -1; kind < 10; kind++ {
					h.take(h.frame(kind, 0), api.ErrState)
				}
				h.tick(0)
			}
		}
		h := offered(t, usual())
		gone(h)
		h.tick(0)
		if s := h.s.State(); s != (State{Session: 0x10001, Epoch: 1, Phase: Idle}) {
			t.Fatalf("%s: State = %+v", what, s)
		}
		h.tick(0)
		h.take(h.frame(api.FrAck, 0), api.ErrState)
	}
}

// P23.2: an Ack, and a Refuse, of an epoch that is lost are what they are of any other.
func TestLostEnds(t *testing.T) {
	for what, gone := range lose() {
		h := offered(t, usual())
		gone(h)
		h.take(h.frame(api.FrAck, 0), api.OK)
		h.phase(Done)
		if h.s.Volume().State().Acked != 1 {
			t.Errorf("%s: %+v", what, h.s.Volume().State())
		}
		h = offered(t, usual())
		gone(h)
		h.take(h.frame(api.FrRefuse, 0), api.OK)
		h.phase(Refused)
	}
}

// P23.3: Tick offers the epoch again and again, under the next numbers, which the answers have too; errors have none.
func TestTick(t *testing.T) {
	for _, c := range few() {
		h := offered(t, c)
		for seq := uint32(1); seq < 10; seq += 2 {
			want := api.Frame{Kind: 1, Session: 0x10001, Epoch: 1, Seq: seq, Vol: c.Vol, N: c.G.N, F: c.G.F, Data: root(c.G, h.m.shot)}
			h.has("Tick", h.tick(1), []api.Frame{want})
			h.take(h.frame(api.FrWant, -1), api.ErrRange)
			if out := h.take(h.frame(api.FrWant, 0), api.OK); out[0].Seq != seq+1 {
				t.Fatalf("Take = %+v", out)
			}
			if c.G.Cow > 0 {
				h.write(0, sector.Mix(uint64(seq)))
			}
		}
	}
}

// P23.2, P23.4: frames of other sessions, of sessions that are over, and of other epochs change nothing; the errors have their order.
func TestOthers(t *testing.T) {
	h := offered(t, usual())
	h.connect(api.OK)
	for kind := -1; kind < 10; kind++ {
		for _, index := range []int{0, 10, -1} {
			for _, session := range []uint64{0, 0x10001, 0x10003, 2, 0x20002, math.MaxUint64} {
				for _, epoch := range []uint64{0, 1, 2} {
					h.take(api.Frame{Kind: kind, Session: session, Epoch: epoch, Index: index, Code: 7}, api.ErrSession)
				}
			}
			for _, epoch := range []uint64{0, 2, 1 << 48, math.MaxUint64} {
				h.take(api.Frame{Kind: kind, Session: 0x10002, Epoch: epoch, Index: index, Code: 7}, api.ErrEpoch)
			}
		}
		h.phase(Open)
	}
	if f := h.tick(1)[0]; f.Seq != 1 {
		t.Errorf("Tick = %+v", f)
	}
	// They do not end a session whose epoch is lost, either; and when it is over, its state is told ahead of the epoch.
	h.seal()
	for _, kind := range []int{api.FrAsk, api.FrWant, api.FrAck, api.FrRefuse} {
		h.take(api.Frame{Kind: kind, Session: 0x10001, Epoch: 1}, api.ErrSession)
		h.take(api.Frame{Kind: kind, Session: 0x10002, Epoch: 2}, api.ErrEpoch)
		h.phase(Open)
	}
	h.tick(0)
	for kind := -1; kind < 10; kind++ {
		h.take(api.Frame{Kind: kind, Session: 0x10001, Epoch: 1}, api.ErrSession)
		h.take(api.Frame{Kind: kind, Session: 0x10002, Epoch: 2}, api.ErrState)
	}
}

// A list that was returned is the caller's: nothing that is written to it appears later.
func TestMemory(t *testing.T) {
	h := offered(t, usual())
	ask := h.frame(api.FrAsk, 10)
	first := h.take(ask, api.OK)
	was := slices.Clone(first[0].List)
	first[0].List[0] = "another"
	_ = append(first[0].List[:1], "more")
	first[0] = api.Frame{}
	if second := h.take(ask, api.OK); !slices.Equal(second[0].List, was) {
		t.Error("the list was changed")
	}
	one := h.tick(1)
	one[0].Kind = 99
	h.tick(1)
}

// random does something by chance to a sender and to its model.
func (h *held) random(r *rand.Rand) {
	h.Helper()
	g := h.m.c.G
	switch k := r.Intn(20); {
	case k < 2:
		h.write(r.Intn(g.N), sector.Mix(uint64(r.Intn(4))))
	case k < 3:
		h.seal()
	case k < 5:
		want := api.OK
		if h.m.v.State().Open == 0 {
			want = api.ErrSnap
		}
		h.connect(want)
	case k < 8:
		h.has("Tick", h.s.Tick(), h.m.tick())
	default:
		f := h.frame(api.FrAsk+r.Intn(2)*2, r.Intn(2*g.N+3)-1)
		switch r.Intn(12) {
		case 0:
			f.Kind = r.Intn(10)
		case 1:
			f.Session += uint64(r.Intn(3)) - 1
		case 2:
			f.Epoch += uint64(r.Intn(3)) - 1
		case 3:
			f.Code = r.Intn(30)
		}
		out, why := h.s.Take(f)
		want, is := h.m.take(f)
		if why != is {
			h.Fatalf("Take(%+v) = %d, want %d", f, why, is)
		}
		h.has("Take", out, want)
	}
	h.agree("a step")
}

// P23.1 to P23.4: rows by chance, over volumes of all kinds, against the model.
func TestRows(t *testing.T) {
	r := rand.New(rand.NewSource(23))
	for _, c := range few() {
		c.Last = 1000
		h := started(t, c)
		for n := range 1500 {
			h.random(r)
			if n%300 == 299 {
				now := h.m.now
				if why := h.s.Volume().Flush(); why != api.OK {
					t.Fatalf("Flush = %d", why)
				}
				shot := h.m.shot
				h = onDisk(t, h.d, c, now)
				h.m.shot = shot
			}
		}
	}
}
