package pair

import (
	"math"
	"math/rand"
	"slices"
	"strings"
	"testing"

	"pentimento/api"
	"pentimento/disk"
	"pentimento/frame"
	"pentimento/geom"
	"pentimento/mirror"
	"pentimento/net"
	"pentimento/origin"
	"pentimento/rec"
	"pentimento/sector"
	"pentimento/send"
	"pentimento/take"
)

// few are some valid volumes: the least and the greatest, of several trees, with room for everything, or less.
func few() []api.Config {
	return []api.Config{
		{Vol: 0, G: api.Geom{N: 1, F: 2, Undo: 1}, Last: 100},
		{Vol: 1, G: api.Geom{N: 1, F: 4, Cow: 2, Undo: 2}, Last: 100},
		{Vol: 7, G: api.Geom{N: 3, F: 2, Cow: 1, Undo: 9}, Last: api.MaxEpoch},
		{Vol: math.MaxUint32, G: api.Geom{N: 5, F: 2, Cow: 3, Undo: 16}, Last: 1000},
		{Vol: 1 << 31, G: api.Geom{N: 9, F: 3, Cow: 7, Undo: 20}, Last: 1 << 40},
		{Vol: 3, G: api.Geom{N: 17, F: 4, Cow: 30, Undo: 60}, Last: 1000},
		{Vol: 0x01020304, G: api.Geom{N: 128, F: 2, Cow: 64, Undo: 320}, Last: api.MaxEpoch},
	}
}

// usual is a volume of a few sectors, with a tree of 5, 3, 2 and 1 nodes, all of which can be undone.
func usual() api.Config {
	return api.Config{Vol: 5, G: api.Geom{N: 5, F: 2, Cow: 2, Undo: 16}, Last: 100}
}

// unfit are numbers of nothing.
func unfit() []int { return []int{-1, -2, math.MinInt, math.MaxInt, 1 << 16, -1 << 32} }

// contents are n sectors, each with bytes of its own.
func contents(n int, c byte) []string {
	var out []string
	for i := range n {
		out = append(out, strings.Repeat(string([]byte{c, byte(i), 0xff, c ^ 0x5a}), 16))
	}
	return out
}

// The steps.
func read(at int) api.Step               { return api.Step{Kind: 1, At: at} }
func write(at int, data string) api.Step { return api.Step{Kind: 2, At: at, Data: data} }
func flush() api.Step                    { return api.Step{Kind: 3} }
func seal() api.Step                     { return api.Step{Kind: 4} }
func connect() api.Step                  { return api.Step{Kind: 5} }
func tick(node int) api.Step             { return api.Step{Kind: 6, Node: node} }
func deliver(n int) api.Step             { return api.Step{Kind: 7, N: n} }
func lose(n int) api.Step                { return api.Step{Kind: 8, N: n} }
func twice(n int) api.Step               { return api.Step{Kind: 9, N: n} }
func cut(n, at int) api.Step             { return api.Step{Kind: 10, N: n, At: at} }
func drop() api.Step                     { return api.Step{Kind: 11} }
func boot(node int) api.Step             { return api.Step{Kind: 13, Node: node} }
func view(at int) api.Step               { return api.Step{Kind: 14, At: at} }
func scrubs(node int) api.Step           { return api.Step{Kind: 15, Node: node} }
func crash(node int, keep ...bool) api.Step {
	return api.Step{Kind: 12, Node: node, Keep: keep}
}

// stopped is a step in which the disk goes down.
func stopped(s api.Step, stop int, keep ...bool) api.Step {
	s.Stop, s.Keep = stop, keep
	return s
}

// held is a pair, and the model of it.
type held struct {
	*testing.T
	p *Pair
	m *model
}

// started is a pair of a volume with sectors of their own bytes.
func started(t *testing.T, c api.Config) *held {
	t.Helper()
	return with(t, c, contents(c.G.N, 1), contents(c.G.N, 2))
}

// with is a pair of a volume with these sectors.
func with(t *testing.T, c api.Config, source, target []string) *held {
	t.Helper()
	p, why := New(c, source, target)
	if why != api.OK {
		t.Fatalf("New = %d", why)
	}
	h := &held{t, p, modelled(t, c, source, target)}
	h.m.agree(t, "New", p)
	return h
}

// do performs a step with both, and tells if they don't agree, or if the list was changed.
func (h *held) do(s api.Step) api.Answer {
	h.Helper()
	keep := slices.Clone(s.Keep)
	a := h.p.Do(s)
	if b := h.m.do(s); !alike(a, b) {
		h.Fatalf("Do(%+v) = %+v, want %+v", s, a, b)
	}
	h.m.agree(h.T, "Do", h.p)
	if !slices.Equal(keep, s.Keep) {
		h.Fatalf("Do made %v of %v", s.Keep, keep)
	}
	return a
}

// answers performs a step, and tells if it is not answered so.
func (h *held) answers(s api.Step, want api.Answer) {
	h.Helper()
	if a := h.do(s); !alike(a, want) {
		h.Fatalf("Do(%+v) = %+v, want %+v", s, a, want)
	}
}

// ok performs steps that have no error.
func (h *held) ok(l ...api.Step) {
	h.Helper()
	for _, s := range l {
		if a := h.do(s); a.Why != api.OK {
			h.Fatalf("Do(%+v) = %+v", s, a)
		}
	}
}

// fails performs a step that is answered by an error alone.
func (h *held) fails(s api.Step, want api.Errno) {
	h.Helper()
	h.answers(s, api.Answer{Why: want})
}

// keeps is fails, and nothing has changed.
func (h *held) keeps(s api.Step, want api.Errno) {
	h.Helper()
	n, a, b := h.p.Net().Copy(), h.p.Disk(0).Copy(), h.p.Disk(1).Copy()
	x, y, source, target := h.p.Sender().State(), h.p.Taker().State(), h.p.Source(), h.p.Target()
	ups := [2]bool{h.p.Up(0), h.p.Up(1)}
	h.fails(s, want)
	sameNet(h.T, "Do", h.p.Net(), n)
	same(h.T, "Do", h.p.Disk(0), a)
	same(h.T, "Do", h.p.Disk(1), b)
	if h.p.Sender().State() != x || h.p.Taker().State() != y || !alikeStates(h.p.Source(), source) || h.p.Target() != target {
		h.Fatalf("Do(%+v) changed a node", s)
	}
	if ups != [2]bool{h.p.Up(0), h.p.Up(1)} {
		h.Fatalf("Do(%+v): Up = %v %v", s, h.p.Up(0), h.p.Up(1))
	}
}

// hand does something to the parts of both that is no step.
func (h *held) hand(do func(n *net.Net, d [2]*disk.Disk)) {
	h.Helper()
	do(h.p.Net(), [2]*disk.Disk{h.p.Disk(0), h.p.Disk(1)})
	do(h.m.n, h.m.d)
}

// sends has a frame on its way to a node, whoever sends it.
func (h *held) sends(to int, f api.Frame) {
	h.Helper()
	b, why := frame.Put(f)
	if why != api.OK {
		h.Fatalf("Put(%+v) = %d", f, why)
	}
	h.hand(func(n *net.Net, _ [2]*disk.Disk) { n.Send(to, b) })
}

// packet tells if packet i is not a frame to a node.
func (h *held) packet(i, to int, want api.Frame) {
	h.Helper()
	q, why := h.p.Net().At(i)
	f, is := frame.Get([]byte(q.B))
	if why != api.OK || is != api.OK || q.To != to || !frame.Alike(f, want) {
		h.Fatalf("packet %d is %+v to %d (%d %d), want %+v to %d", i, f, q.To, why, is, want, to)
	}
}

// reads tells if the source does not read these sectors.
func (h *held) reads(want []string) {
	h.Helper()
	for i, s := range want {
		h.answers(read(i), api.Answer{Data: s})
	}
}

// shows tells if the target does not show these sectors.
func (h *held) shows(want []string) {
	h.Helper()
	for i, s := range want {
		h.answers(view(i), api.Answer{Data: s})
	}
}

// settle delivers packets, the first one first, as long as there are any, and returns how many.
func (h *held) settle() int {
	h.Helper()
	for n := range 2000 {
		if h.p.Net().Len() == 0 {
			return n
		}
		h.ok(deliver(0))
	}
	h.Fatal("packets without an end")
	return 0
}

// unfused tells if a node's disk has a fuse.
func (h *held) unfused(node int) {
	h.Helper()
	d := h.p.Disk(node).Copy()
	for range 2000 {
		if why := d.Flush(); why != api.OK {
			h.Fatalf("the disk of node %d has a fuse", node)
		}
	}
}

// P25.1: New: both nodes are up on disks of their sizes, as Format and one start leave them, and nothing is on its way.
func TestNew(t *testing.T) {
	for _, c := range few() {
		for n := range min(c.G.N, 2) + 1 {
			source, target := contents(c.G.N, 1)[n:], contents(c.G.N, 2)[:c.G.N-n]
			h := with(t, c, source, target)
			if h.p.Disk(0).Len() != geom.Size(c.G, api.Source) || h.p.Disk(1).Len() != geom.Size(c.G, api.Target) {
				t.Errorf("%+v: disks of %d and %d sectors", c, h.p.Disk(0).Len(), h.p.Disk(1).Len())
			}
			if sent, came, lost := h.p.Net().Counts(); h.p.Net().Len()+sent+came+lost != 0 {
				t.Errorf("%+v: Counts = %d %d %d", c, sent, came, lost)
			}
			if a, b := h.p.Source(), h.p.Target(); a.Boot != 1 || b.Boot != 1 || a.Epoch != 0 || b.Epoch != 0 {
				t.Errorf("%+v: Source = %+v, Target = %+v", c, a, b)
			}
			zeros := slices.Repeat([]string{sector.Zero()}, n)
			h.reads(append(slices.Clone(source), zeros...))
			h.shows(append(slices.Clone(target), zeros...))
		}
	}
}

// P25.1: lists of no sectors, nil or empty.
func TestNewEmpty(t *testing.T) {
	for _, l := range [][]string{nil, {}} {
		h := with(t, usual(), l, l)
		zeros := slices.Repeat([]string{sector.Zero()}, 5)
		h.reads(zeros)
		h.shows(zeros)
		h.answers(scrubs(0), api.Answer{})
		h.answers(scrubs(1), api.Answer{})
	}
}

// P25.1: New's errors, in their order: the volume's, the source's sectors, the target's.
func TestNewErrors(t *testing.T) {
	good, many, half := contents(5, 1), contents(6, 1), []string{sector.Zero(), "half"}
	lists := [][]string{good, many, half, {""}, nil}
	whys := []api.Errno{api.OK, api.ErrLong, api.ErrLength, api.ErrLength, api.OK}
	for i, source := range lists {
		for k, target := range lists {
			want := whys[i]
			if want == api.OK {
				want = whys[k]
			}
			if p, why := New(usual(), source, target); why != want || (p == nil) != (want != api.OK) {
				t.Errorf("New of lists %d and %d = %v %d, want %d", i, k, p, why, want)
			}
		}
	}
	for _, change := range []func(c *api.Config){
		func(c *api.Config) { c.G.N = 0 },
		func(c *api.Config) { c.G.N = 129 },
		func(c *api.Config) { c.G.F = 5 },
		func(c *api.Config) { c.G.Cow = -1 },
		func(c *api.Config) { c.G.Undo = 0 },
		func(c *api.Config) { c.G.Undo = math.MaxInt },
		func(c *api.Config) { c.Last = api.MaxEpoch + 1 },
		func(c *api.Config) { *c = api.Config{} },
	} {
		c := usual()
		change(&c)
		_, want := rec.Volume(api.Source, c)
		for _, l := range lists {
			if p, why := New(c, l, l); p != nil || why != want || why == api.OK {
				t.Errorf("New(%+v) = %v %d, want %d", c, p, why, want)
			}
		}
	}
}

// P25.1, P25.2: New and Do neither change nor keep lists (rule 5).
func TestListsIn(t *testing.T) {
	source, target := contents(5, 1), contents(5, 2)
	h := with(t, usual(), source, target)
	source[0], target[0] = "", ""
	h.reads(contents(5, 1))
	h.shows(contents(5, 2))
	keep := []bool{false, false, true}
	h.ok(write(0, sector.Fill(1)), api.Step{Kind: 12, Node: 0, Keep: keep})
	keep[0] = true
	h.ok(boot(0))
}

// P25.2: read, write and flush are those of the source's volume.
func TestReadWrite(t *testing.T) {
	for _, c := range few() {
		h := started(t, c)
		want := contents(c.G.N, 1)
		for i := range c.G.N {
			want[i] = sector.Fill(byte(200 - i))
			h.answers(write(i, want[i]), api.Answer{})
		}
		h.reads(want)
		if len(h.p.Disk(0).Waits()) == 0 {
			t.Error("write flushes")
		}
		h.answers(flush(), api.Answer{})
		if len(h.p.Disk(0).Waits()) > 0 {
			t.Error("flush does not")
		}
		h.reads(want)
		h.shows(contents(c.G.N, 2))
		for _, i := range append(unfit(), c.G.N) {
			h.keeps(read(i), api.ErrRange)
			h.keeps(write(i, sector.Zero()), api.ErrRange)
			h.keeps(write(i, ""), api.ErrRange)
		}
		for _, data := range []string{"", "a", want[0][1:], want[0] + "a"} {
			h.keeps(write(0, data), api.ErrLength)
		}
	}
}

// P25.2: seal returns the epochs, one after the other, to the last one.
func TestSeal(t *testing.T) {
	c := usual()
	c.Last = 3
	h := started(t, c)
	for epoch := range int64(3) {
		h.ok(write(0, sector.Fill(byte(epoch+5))))
		h.answers(seal(), api.Answer{N: epoch + 1})
		if s := h.p.Source(); s.Open != uint64(epoch+1) {
			t.Errorf("Source = %+v", s)
		}
	}
	h.keeps(seal(), api.ErrEpoch)
}

// P25.2: connect returns the session, and its offer is on its way to the target.
func TestConnect(t *testing.T) {
	h := started(t, usual())
	h.keeps(connect(), api.ErrSnap)
	h.ok(seal())
	root := h.p.Source().Root
	for n := range 3 {
		session := int64(1<<16 + n + 1)
		h.answers(connect(), api.Answer{N: session})
		h.packet(n, api.Target, api.Frame{Kind: api.FrHello, Session: uint64(session), Epoch: 1, Vol: 5, N: 5, F: 2, Data: root})
	}
	if h.p.Net().Len() != 3 {
		t.Errorf("%d packets", h.p.Net().Len())
	}
	h.ok(crash(0), boot(0))
	h.answers(connect(), api.Answer{N: 2<<16 + 1})
}

// P25.2: tick returns how many frames there were, and these are on their way.
func TestTick(t *testing.T) {
	h := started(t, usual())
	h.answers(tick(0), api.Answer{})
	h.answers(tick(1), api.Answer{})
	h.ok(seal(), connect(), drop())
	h.answers(tick(0), api.Answer{N: 1})
	h.packet(0, api.Target, api.Frame{Kind: api.FrHello, Session: 1<<16 + 1, Epoch: 1, Seq: 1, Vol: 5, N: 5, F: 2, Data: h.p.Source().Root})
	h.ok(deliver(0), drop())
	h.answers(tick(1), api.Answer{N: 1})
	h.packet(0, api.Source, api.Frame{Kind: api.FrAsk, Session: 1<<16 + 1, Epoch: 1, Seq: 1, Index: 10})
	h.settle()
	h.answers(tick(0), api.Answer{})
	h.answers(tick(1), api.Answer{N: 1})
	if h.p.Net().Len() != 1 {
		t.Errorf("%d packets", h.p.Net().Len())
	}
}

// P25.2: frames for which there is no room are lost; they count all the same.
func TestFull(t *testing.T) {
	h := started(t, usual())
	h.ok(seal(), connect())
	for h.p.Net().Len() < api.MaxNet {
		h.answers(tick(0), api.Answer{N: 1})
	}
	sent, _, lost := h.p.Net().Counts()
	h.answers(tick(0), api.Answer{N: 1})
	h.answers(connect(), api.Answer{N: 1<<16 + 2})
	if a, _, b := h.p.Net().Counts(); a != sent+2 || b != lost+2 || h.p.Net().Len() != api.MaxNet {
		t.Errorf("Counts = %d %d", a, b)
	}
	h.keeps(twice(0), api.ErrFull)
	// The packet that comes makes room for its answer.
	h.ok(deliver(7))
	h.packet(api.MaxNet-1, api.Source, api.Frame{Kind: api.FrAsk, Session: 1<<16 + 1, Epoch: 1, Index: 10})
}

// P25.2: a session from its offer to its end: deliver returns the kind of each frame, and its answer is on its way.
func TestDeliver(t *testing.T) {
	source := contents(5, 2)
	source[3] = sector.Fill(7)
	h := with(t, usual(), source, contents(5, 2))
	h.ok(seal(), connect())
	for i, kind := range []int64{api.FrHello, api.FrAsk, api.FrNodes, api.FrAsk, api.FrNodes, api.FrAsk, api.FrNodes, api.FrWant, api.FrData, api.FrAck} {
		if q, _ := h.p.Net().At(0); h.p.Net().Len() != 1 || q.To != 1-i%2 {
			t.Fatalf("frame %d: %d packets, to %d", i, h.p.Net().Len(), q.To)
		}
		h.shows(contents(5, 2)[:3])
		h.answers(deliver(0), api.Answer{N: kind})
	}
	if h.p.Net().Len() != 0 || h.p.Sender().State().Phase != send.Done || h.p.Source().Acked != 1 || h.p.Target().Epoch != 1 {
		t.Errorf("Source = %+v, Target = %+v", h.p.Source(), h.p.Target())
	}
	h.shows(source)
	h.keeps(deliver(0), api.ErrRange)
}

// P25.2: deliver of a packet that is not the first one.
func TestDeliverAny(t *testing.T) {
	h := started(t, usual())
	h.ok(seal(), connect(), connect(), deliver(1))
	h.packet(0, api.Target, api.Frame{Kind: api.FrHello, Session: 1<<16 + 1, Epoch: 1, Vol: 5, N: 5, F: 2, Data: h.p.Source().Root})
	h.packet(1, api.Source, api.Frame{Kind: api.FrAsk, Session: 1<<16 + 2, Epoch: 1, Index: 10})
	for _, n := range append(unfit(), 2) {
		h.keeps(deliver(n), api.ErrRange)
	}
	// The first one is of an earlier session: an error, beside the frame's kind.
	h.answers(deliver(0), api.Answer{Why: api.ErrSession, N: api.FrHello})
	h.settle()
	h.shows(contents(5, 1))
}

// P25.2: what was cut or changed comes, and nothing else happens.
func TestDeliverBad(t *testing.T) {
	h := started(t, usual())
	h.ok(seal(), connect(), twice(0), twice(0), cut(0, 26))
	h.fails(deliver(0), api.ErrShort)
	h.hand(func(n *net.Net, _ [2]*disk.Disk) {
		q, _ := n.At(0)
		n.Send(api.Target, []byte(q.B+"a"))
		n.Send(api.Source, []byte(q.B[:30]+"a"+q.B[31:]))
		n.Send(api.Source, nil)
	})
	h.fails(deliver(2), api.ErrLong)
	h.fails(deliver(2), api.ErrSum)
	h.fails(stopped(deliver(2), 1), api.ErrShort)
	if _, came, _ := h.p.Net().Counts(); came != 4 || h.p.Net().Len() != 2 {
		t.Errorf("%d packets, %d came", h.p.Net().Len(), came)
	}
	if h.p.Target().Session != 0 {
		t.Errorf("Target = %+v", h.p.Target())
	}
	h.unfused(0)
	h.unfused(1)
}

// P25.2: errors of the sender and the taker come with the frame's kind, and what is returned with them is sent.
func TestDeliverErrors(t *testing.T) {
	h := started(t, usual())
	hello := api.Frame{Kind: api.FrHello, Session: 9, Epoch: 4, Vol: 6, N: 5, F: 2, Data: strings.Repeat("r", 32)}
	for _, row := range []struct {
		to   int
		f    api.Frame
		want api.Errno
		code int
	}{
		{1, hello, api.ErrVolume, 13},
		{1, api.Frame{Kind: api.FrHello, Session: 9, Epoch: 4, Vol: 5, N: 6, F: 2, Data: hello.Data}, api.ErrGeom, 12},
		{1, api.Frame{Kind: api.FrHello, Session: 9, Epoch: 0, Vol: 5, N: 5, F: 2, Data: hello.Data}, api.ErrRoot, 15},
		{1, api.Frame{Kind: api.FrHello, Session: 9, Epoch: 101, Vol: 5, N: 5, F: 2, Data: hello.Data}, api.ErrEpoch, 14},
		{1, api.Frame{Kind: api.FrAck, Session: 9}, api.ErrKind, 0},
		{1, api.Frame{Kind: api.FrData, Session: 8, Data: sector.Zero()}, api.ErrSession, 0},
		{1, api.Frame{Kind: api.FrData, Session: 9, Data: sector.Zero()}, api.ErrState, 0},
		{0, api.Frame{Kind: api.FrAck, Session: 1<<16 + 1, Epoch: 1}, api.ErrSession, 0},
		{0, hello, api.ErrSession, 0},
	} {
		h.sends(row.to, row.f)
		h.answers(deliver(0), api.Answer{Why: row.want, N: int64(row.f.Kind)})
		if row.code == 0 {
			if h.p.Net().Len() != 0 {
				t.Errorf("%+v is answered", row.f)
			}
			continue
		}
		q, _ := h.p.Net().At(0)
		f, _ := frame.Get([]byte(q.B))
		h.packet(0, api.Source, api.Frame{Kind: api.FrRefuse, Session: row.f.Session, Epoch: row.f.Epoch, Seq: f.Seq, Code: row.code})
		h.ok(drop())
	}
}

// P25.2: a packet to a node that is down is lost.
func TestDeliverDown(t *testing.T) {
	for node := range 2 {
		h := started(t, usual())
		h.ok(seal(), connect(), tick(0))
		if node == 0 {
			h.ok(deliver(0), twice(1))
		} else {
			h.ok(tick(0))
		}
		h.ok(crash(node))
		n := h.p.Net().Len()
		_, came, lost := h.p.Net().Counts()
		h.fails(deliver(1), api.ErrDown)
		h.fails(stopped(deliver(1), 1, true), api.ErrDown)
		if _, a, b := h.p.Net().Counts(); a != came || b != lost+2 || h.p.Net().Len() != n-2 {
			t.Errorf("node %d: %d packets, Counts = %d %d", node, h.p.Net().Len(), a, b)
		}
		if h.p.Up(node) || !h.p.Up(1-node) {
			t.Errorf("Up = %v %v", h.p.Up(0), h.p.Up(1))
		}
	}
}

// P25.2: what befalls the net, whether the nodes are up or down; Stop and the like are ignored.
func TestNetSteps(t *testing.T) {
	for down := range 2 {
		h := started(t, usual())
		h.ok(seal(), connect(), connect(), connect())
		if down == 1 {
			h.ok(crash(0), crash(1))
		}
		for _, n := range append(unfit(), 3) {
			for _, s := range []api.Step{lose(n), twice(n), cut(n, 0), cut(n, -1)} {
				h.keeps(stopped(s, 1, true), api.ErrRange)
			}
		}
		for _, at := range []int{-1, math.MinInt, 67, math.MaxInt} {
			h.keeps(cut(1, at), api.ErrLength)
		}
		h.answers(stopped(twice(1), 1), api.Answer{})
		h.answers(stopped(cut(1, 40), 1), api.Answer{})
		h.answers(stopped(lose(0), 1), api.Answer{})
		a, _ := h.p.Net().At(0)
		b, _ := h.p.Net().At(2)
		if len(a.B) != 40 || len(b.B) <= 40 || h.p.Net().Len() != 3 {
			t.Errorf("packets are %+v", h.p.Net())
		}
		h.answers(api.Step{Kind: 11, Node: 9, At: -1, N: -1, Data: "a", Stop: 1}, api.Answer{})
		if sent, came, lost := h.p.Net().Counts(); h.p.Net().Len() != 0 || sent != 4 || came != 0 || lost != 4 {
			t.Errorf("Counts = %d %d %d", sent, came, lost)
		}
		h.keeps(lose(0), api.ErrRange)
		h.answers(drop(), api.Answer{})
	}
}

// P25.2: a crash keeps the pending writes that Keep names; the node is down till it is booted, which counts its starts.
func TestCrash(t *testing.T) {
	for _, keep := range [][]bool{nil, {true}, {false, true}, {true, true, true, true, true, true}} {
		for node := range 2 {
			h := started(t, usual())
			h.ok(flush())
			h.ok(write(1, sector.Fill(1)), write(1, sector.Fill(2)))
			h.hand(func(_ *net.Net, d [2]*disk.Disk) { d[1].Write(geom.Area(usual().G, 1, 31), sector.Fill(3)) })
			want := h.p.Disk(node).Copy()
			want.Crash(keep...)
			h.answers(stopped(crash(node), 1, keep...), api.Answer{})
			same(t, "crash", h.p.Disk(node), want)
			if h.p.Up(node) || !h.p.Up(1-node) {
				t.Errorf("Up = %v %v", h.p.Up(0), h.p.Up(1))
			}
			h.keeps(crash(node, true), api.ErrDown)
			h.answers(boot(node), api.Answer{N: 2})
			h.keeps(boot(node), api.ErrUp)
			h.keeps(stopped(boot(node), 1, true), api.ErrUp)
			h.unfused(node)
			h.ok(crash(node))
			h.answers(boot(node), api.Answer{N: 3})
		}
	}
}

// P25.2: steps of a node that is down.
func TestDown(t *testing.T) {
	h := started(t, usual())
	h.ok(seal(), connect(), crash(0))
	for _, s := range []api.Step{read(0), read(-1), write(0, sector.Zero()), write(9, ""), flush(), seal(), connect(), tick(0), scrubs(0), crash(0, true)} {
		h.keeps(s, api.ErrDown)
		h.keeps(stopped(s, 1, true), api.ErrDown)
	}
	h.shows(contents(5, 2))
	h.ok(tick(1), scrubs(1), crash(1))
	for _, s := range []api.Step{view(0), view(-1), tick(1), scrubs(1), crash(1)} {
		h.keeps(s, api.ErrDown)
		h.keeps(stopped(s, 1, true), api.ErrDown)
	}
	h.ok(boot(0))
	h.reads(contents(5, 1))
	h.keeps(view(0), api.ErrDown)
}

// P25.2: other kinds, and nodes that are none of the two where one is required; elsewhere the node is ignored.
func TestArguments(t *testing.T) {
	h := started(t, usual())
	for down := range 2 {
		for _, kind := range append(unfit(), 0, 16, 17, 31) {
			h.keeps(api.Step{Kind: kind, Data: sector.Zero(), Stop: 1, Keep: []bool{true}}, api.ErrArg)
		}
		for _, node := range append(unfit(), 2) {
			for _, s := range []api.Step{tick(node), crash(node), boot(node), scrubs(node)} {
				h.keeps(stopped(s, down, true), api.ErrArg)
			}
		}
		if down == 0 {
			h.ok(crash(0), crash(1))
		}
	}
	h.ok(boot(0), boot(1))
	for _, node := range append(unfit(), 1, 2) {
		for _, s := range []api.Step{read(0), write(0, sector.Fill(9)), flush(), seal(), drop(), connect(), deliver(0), view(0)} {
			s.Node = node
			h.ok(s)
		}
	}
}

// P25.2: view shows the target's sectors, as they were ahead of a try, in it, and behind it.
func TestView(t *testing.T) {
	for _, c := range few()[1:] {
		h := started(t, c)
		for _, i := range append(unfit(), c.G.N) {
			h.keeps(view(i), api.ErrRange)
		}
		h.ok(seal(), connect())
		for n := 0; h.p.Net().Len() > 0; n++ {
			if h.p.Target().Epoch == 0 && n%7 == 0 {
				h.shows(contents(c.G.N, 2))
			}
			h.do(deliver(0))
		}
		if h.p.Target().Epoch == 1 {
			h.shows(contents(c.G.N, 1))
		} else {
			h.shows(contents(c.G.N, 2))
		}
	}
}

// P25.2: scrub finds nothing on sound disks; on others, what is wrong, but for what the source wrote since its seal.
func TestScrub(t *testing.T) {
	c := usual()
	h := started(t, c)
	h.answers(scrubs(0), api.Answer{})
	h.answers(scrubs(1), api.Answer{})
	h.ok(write(4, sector.Fill(1)))
	h.answers(scrubs(0), api.Answer{})
	h.hand(func(_ *net.Net, d [2]*disk.Disk) {
		for node := range d {
			d[node].Write(geom.Data(c.G, 0), sector.Fill(9))
			d[node].Write(geom.Node(c.G, 8), sector.Fill(9))
			d[node].Write(geom.Data(c.G, 4), sector.Fill(9))
		}
	})
	// Leaf 4, and what is above it, 7, 9 and 10, are not asked on the source.
	h.answers(scrubs(0), api.Answer{N: 2, List: []int{0, 8}})
	h.answers(scrubs(1), api.Answer{N: 3, List: []int{0, 4, 8}})
	a := h.p.Do(scrubs(1))
	a.List[0] = 77
	_ = append(a.List[:1], 78)
	h.answers(scrubs(1), api.Answer{N: 3, List: []int{0, 4, 8}})
}

// P25.2: scrub of the target while there is a try.
func TestScrubTry(t *testing.T) {
	h := started(t, usual())
	h.ok(seal(), connect())
	for h.p.Target().Epoch == 0 {
		h.ok(deliver(0))
		if h.p.Target().Try != 0 {
			h.keeps(scrubs(1), api.ErrState)
		}
		h.answers(scrubs(0), api.Answer{})
	}
	h.answers(scrubs(1), api.Answer{})
	h.settle()
	h.answers(scrubs(1), api.Answer{})
}

// P25.3: the pair's own things, and none of what is not there.
func TestParts(t *testing.T) {
	for _, c := range few() {
		h := started(t, c)
		p := h.p
		if p.Config() != c || p.Net() == nil || p.Net() != p.Net() || p.Disk(0) == p.Disk(1) {
			t.Errorf("Config = %+v", p.Config())
		}
		n, a, b, s, k := p.Net(), p.Disk(0), p.Disk(1), p.Sender(), p.Taker()
		h.ok(seal(), connect(), deliver(0))
		if p.Sender() != s || p.Taker() != k || s.Volume() == nil || k.Volume() == nil {
			t.Error("another sender, or taker")
		}
		if !alikeStates(s.Volume().State(), p.Source()) || k.Volume().State() != p.Target() {
			t.Error("the States are others")
		}
		h.ok(crash(0))
		if p.Sender() != nil || p.Taker() != k || !alikeStates(p.Source(), origin.State{}) || p.Target().Boot != 1 || p.Up(0) || !p.Up(1) {
			t.Errorf("the source is down: %+v, %+v", p.Source(), p.Target())
		}
		h.ok(boot(0), crash(1))
		if p.Sender() == nil || p.Sender() == s || p.Taker() != nil || p.Target() != (mirror.State{}) || p.Source().Boot != 2 || !p.Up(0) || p.Up(1) {
			t.Errorf("the target is down: %+v, %+v", p.Source(), p.Target())
		}
		if p.Sender().State() != (send.State{}) {
			t.Errorf("State = %+v", p.Sender().State())
		}
		h.ok(boot(1))
		if p.Taker() == nil || p.Taker() == k || p.Taker().State() != (take.State{}) || !p.Up(1) {
			t.Error("the target is not up")
		}
		if p.Net() != n || p.Disk(0) != a || p.Disk(1) != b || p.Config() != c {
			t.Error("another net, or disk")
		}
		for _, node := range append(unfit(), 2) {
			if p.Up(node) || p.Disk(node) != nil {
				t.Errorf("there is a node %d", node)
			}
		}
	}
}

// P25.3: what befalls a pair's own parts befalls the pair.
func TestHands(t *testing.T) {
	h := started(t, usual())
	h.ok(seal(), connect())
	h.hand(func(n *net.Net, _ [2]*disk.Disk) { n.Drop() })
	h.keeps(deliver(0), api.ErrRange)
	// A disk that went down by another hand: the node is up until a step sees it, and then sends nothing.
	for _, s := range []api.Step{tick(0), read(0), connect(), scrubs(0), read(-1)} {
		h.ok(write(0, sector.Fill(1)))
		h.hand(func(_ *net.Net, d [2]*disk.Disk) { d[0].Crash(true) })
		if !h.p.Up(0) {
			t.Error("the source is down")
		}
		h.fails(s, api.ErrDown)
		if h.p.Up(0) || h.p.Net().Len() > 0 {
			t.Errorf("%+v: Up", s)
		}
		h.ok(boot(0))
		h.hand(func(n *net.Net, _ [2]*disk.Disk) { n.Drop() })
		h.ok(connect(), drop())
	}
	h.hand(func(_ *net.Net, d [2]*disk.Disk) { d[1].Crash() })
	h.answers(crash(1), api.Answer{})
	// One that came up so: its volume is opened all the same.
	h.hand(func(_ *net.Net, d [2]*disk.Disk) { d[1].Up() })
	if h.p.Up(1) {
		t.Error("the target is up")
	}
	h.keeps(view(0), api.ErrDown)
	h.answers(boot(1), api.Answer{N: 2})
	// A fuse by another hand holds if the step has none.
	for _, stop := range []int{0, -1} {
		h.hand(func(_ *net.Net, d [2]*disk.Disk) { d[0].Fuse(0) })
		h.fails(stopped(flush(), stop), api.ErrDown)
		h.ok(boot(0))
	}
	// A fuse is gone at the end of a step.
	for _, s := range []api.Step{tick(1), view(-1), boot(1)} {
		h.hand(func(_ *net.Net, d [2]*disk.Disk) { d[1].Fuse(2) })
		h.do(s)
		h.unfused(1)
	}
	h.hand(func(_ *net.Net, d [2]*disk.Disk) { d[1].Crash() })
	h.fails(boot(1), api.ErrUp)
	h.answers(boot(1), api.Answer{N: 3})
}

// P25.1 to P25.3: a pair that is not there, and one that New did not make.
func TestNone(t *testing.T) {
	var p *Pair
	for kind := range 17 {
		if a := p.Do(api.Step{Kind: kind, Stop: 1, Keep: []bool{true}}); !alike(a, api.Answer{Why: api.ErrNil}) {
			t.Errorf("Do = %+v", a)
		}
	}
	for _, p := range []*Pair{nil, {}} {
		for _, node := range append(unfit(), 0, 1) {
			if p.Up(node) || p.Disk(node) != nil {
				t.Errorf("Up(%d) = %v", node, p.Up(node))
			}
		}
		if p.Net() != nil || p.Sender() != nil || p.Taker() != nil || p.Config() != (api.Config{}) {
			t.Error("there is something")
		}
		if !alikeStates(p.Source(), origin.State{}) || p.Target() != (mirror.State{}) {
			t.Error("there is a State")
		}
	}
	p = &Pair{}
	for kind := -1; kind < 20; kind++ {
		for node := range 2 {
			a := p.Do(api.Step{Kind: kind, Node: node, Stop: 1})
			if (a.Why == api.OK) != (kind == 11) || a.N != 0 {
				t.Errorf("Do of %d = %+v", kind, a)
			}
		}
	}
}

// opens is the error of Open for a node's disk as it is, by a copy.
func (h *held) opens(node int) (why api.Errno) {
	d := h.p.Disk(node).Copy()
	d.Up()
	if node == 0 {
		_, why = origin.Open(d)
	} else {
		_, why = mirror.Open(d)
	}
	return why
}

// P25.2: a boot of a disk whose volume can't be opened: the error of Open, and the node stays down.
func TestBootErrors(t *testing.T) {
	for node := range 2 {
		for _, at := range [][]int{{0}, {1, 2}, {3, 4}} {
			h := started(t, usual())
			h.hand(func(_ *net.Net, d [2]*disk.Disk) {
				for _, at := range at {
					d[node].Write(at, sector.Fill(1))
				}
				d[node].Flush()
			})
			h.ok(crash(node))
			want := h.opens(node)
			for _, keep := range [][]bool{nil, {true, true}} {
				s := boot(node)
				s.Keep = keep
				h.fails(s, want)
				if want == api.OK || h.p.Up(node) || !h.p.Disk(node).Down() || !h.p.Up(1-node) {
					t.Errorf("node %d, sectors %v: %d", node, at, want)
				}
			}
			h.fails(tick(node), api.ErrDown)
		}
	}
}

// P25.2: a boot in which the disk goes down: the error of Open, and of what it wrote Keep is kept.
func TestStopBoot(t *testing.T) {
	for node := range 2 {
		for _, kept := range []bool{false, true} {
			h := started(t, usual())
			h.ok(crash(node))
			h.fails(stopped(boot(node), 1, kept), api.ErrDown)
			if h.p.Up(node) || !h.p.Disk(node).Down() {
				t.Errorf("node %d is up", node)
			}
			// The number of starts is written, and not flushed.
			h.fails(stopped(boot(node), 2, kept), api.ErrDown)
			want := int64(2)
			if kept {
				want = 3
			}
			h.answers(stopped(boot(node), 3, kept), api.Answer{N: want})
			h.unfused(node)
		}
	}
}

// P25.2: Open's own errors come, each by its number.
func TestBootWhy(t *testing.T) {
	h := started(t, usual())
	text, _ := rec.Volume(api.Target, usual())
	h.hand(func(_ *net.Net, d [2]*disk.Disk) {
		d[0].Write(0, text)
		d[0].Flush()
		d[1].Write(0, sector.Zero())
		d[1].Flush()
	})
	h.ok(crash(0), crash(1))
	h.keeps(boot(0), api.ErrKind)
	_, _, want := rec.Config(sector.Zero())
	h.keeps(boot(1), want)
	// With a fuse it is the same, as nothing is written.
	h.keeps(stopped(boot(0), 1), api.ErrKind)
}

// fall is a step in which a node may go down, and what is ahead of it.
type fall struct {
	node  int
	first []api.Step
	s     api.Step
}

// falls are steps of each kind that writes to a disk.
func falls() []fall {
	h := []api.Step{seal(), connect()}
	for range 40 {
		h = append(h, deliver(0))
	}
	rows := []fall{
		{0, nil, write(2, sector.Fill(1))},
		{0, []api.Step{seal(), write(0, sector.Fill(1)), write(1, sector.Fill(1))}, write(2, sector.Fill(1))},
		{0, []api.Step{seal()}, write(2, sector.Fill(1))},
		{0, []api.Step{write(2, sector.Fill(1))}, flush()},
		{0, []api.Step{write(2, sector.Fill(1)), write(3, sector.Fill(1))}, seal()},
		{0, []api.Step{seal(), crash(0)}, boot(0)},
		{1, []api.Step{crash(1)}, boot(1)},
		{1, append(slices.Clone(h[:20]), crash(1, true)), boot(1)},
	}
	for n := 2; n < 26; n++ {
		rows = append(rows, fall{1 - n%2, h[:n], deliver(0)})
	}
	return rows
}

// P25.2: the node goes down at the write or flush that Stop says, whatever Keep keeps: all is zero, nothing is sent, the other node is as it was. With a greater Stop nothing goes down, and there is no fuse behind.
func TestStop(t *testing.T) {
	for i, row := range falls() {
		counts := started(t, usual())
		counts.ok(row.first...)
		done := counts.p.Disk(row.node).Done()
		full := counts.do(row.s)
		if full.Why != api.OK {
			t.Fatalf("row %d: Do(%+v) = %+v", i, row.s, full)
		}
		writes := counts.p.Disk(row.node).Done() - done
		for stop := 1; stop <= writes+1; stop++ {
			for _, keep := range [][]bool{nil, {true, true, true, true}, {false, true}} {
				h := started(t, usual())
				h.ok(row.first...)
				s := stopped(row.s, stop, keep...)
				if stop > writes {
					h.answers(s, full)
					h.unfused(row.node)
					continue
				}
				sent, _, _ := h.p.Net().Counts()
				other := h.p.Disk(1 - row.node).Copy()
				h.fails(s, api.ErrDown)
				same(t, "the other node's disk", h.p.Disk(1-row.node), other)
				if n, _, _ := h.p.Net().Counts(); n != sent || h.p.Up(row.node) || !h.p.Up(1-row.node) || !h.p.Disk(row.node).Down() {
					t.Errorf("row %d, stop %d: Up = %v %v, sent %d", i, stop, h.p.Up(0), h.p.Up(1), n-sent)
				}
				if len(h.p.Disk(row.node).Waits()) > 0 {
					t.Errorf("row %d, stop %d: writes are pending", i, stop)
				}
				h.ok(boot(row.node))
			}
		}
	}
}

// P25.2: of what was not flushed, just the part given by Keep is kept when the disk goes down in a step.
func TestStopKeep(t *testing.T) {
	for mask := range 8 {
		h := started(t, usual())
		h.ok(write(0, sector.Fill(1)), flush(), write(0, sector.Fill(2)), write(0, sector.Fill(3)), write(0, sector.Fill(4)))
		if n := len(h.p.Disk(0).Waits()); n != 3 {
			t.Fatalf("%d writes are pending", n)
		}
		keep := []bool{mask&1 > 0, mask&2 > 0, mask&4 > 0}
		h.fails(stopped(flush(), 1, keep...), api.ErrDown)
		h.ok(boot(0))
		want := byte(1)
		for i, kept := range keep {
			if kept {
				want = byte(i + 2)
			}
		}
		h.answers(read(0), api.Answer{Data: sector.Fill(want)})
	}
}

// P25.2: a Stop that is not positive is none; one in a step that writes nothing lets nothing go down.
func TestNoStop(t *testing.T) {
	h := started(t, usual())
	for _, stop := range []int{0, -1, math.MinInt} {
		h.ok(stopped(write(0, sector.Fill(1)), stop, true), stopped(flush(), stop))
	}
	h.ok(seal(), connect())
	for _, s := range []api.Step{read(0), view(0), tick(0), tick(1), scrubs(0), scrubs(1), connect()} {
		h.ok(stopped(s, 1, true))
		h.unfused(0)
		h.unfused(1)
	}
	for _, stop := range []int{math.MaxInt, 1000} {
		h.ok(stopped(flush(), stop))
		h.unfused(0)
	}
	h.keeps(stopped(write(9, ""), 1), api.ErrRange)
	h.keeps(stopped(view(9), 1), api.ErrRange)
	h.unfused(0)
	h.unfused(1)
}

// The chapter's example.
func TestExample(t *testing.T) {
	for _, c := range few()[1:6] {
		c.G.Undo = c.G.N + geom.Nodes(c.G)
		h := started(t, c)
		h.ok(seal(), connect())
		h.settle()
		if s := h.p.Target(); s.Epoch != 1 || s.Root != h.p.Source().Root || h.p.Source().Acked != 1 {
			t.Errorf("Target = %+v", s)
		}
		h.shows(contents(c.G.N, 1))
	}
}

// random is a step by chance, most often one that can be.
func random(r *rand.Rand, p *Pair) api.Step {
	n := p.Config().G.N
	s := api.Step{Kind: 7, Node: r.Intn(2), At: r.Intn(n), Data: sector.Mix(r.Uint64())}
	switch k := r.Intn(100); {
	case k < 15:
		s.Kind = 2
	case k < 50:
		s.Kind = 1 + r.Intn(15)
		for (s.Kind == 12 || s.Kind == 4) && r.Intn(4) > 0 {
			s.Kind = 5 + r.Intn(2)
		}
	}
	for node := range 2 {
		if !p.Up(node) && r.Intn(4) == 0 {
			s.Kind, s.Node = 13, node
		}
	}
	if s.Kind == 10 {
		s.At = r.Intn(120)
	}
	if r.Intn(3) == 0 {
		s.N = r.Intn(p.Net().Len() + 1)
	}
	for range r.Intn(8) {
		s.Keep = append(s.Keep, r.Intn(2) == 0)
	}
	if r.Intn(10) == 0 {
		s.Stop = 1 + r.Intn(20)
	}
	return s
}

// P25.1 to P25.3: rows by chance, some of whose steps can't be, with other hands at the parts now and then, against the model.
func TestRows(t *testing.T) {
	r := rand.New(rand.NewSource(25))
	wild := []int{-1, 0, 1, 2, 3, 15, 16, 64, 200, math.MaxInt, math.MinInt}
	for _, c := range few() {
		for range 6 {
			h := started(t, c)
			for range 500 {
				s := random(r, h.p)
				w := wild[r.Intn(len(wild))]
				switch r.Intn(80) {
				case 0:
					s.Kind = w
				case 1:
					s.Node = w
				case 2:
					s.At = w
				case 3:
					s.N = w
				case 4:
					s.Data = strings.Repeat("d", r.Intn(66))
				case 5:
					s.Stop = w
				case 6:
					h.byHand(r)
				}
				h.do(s)
			}
		}
	}
}

// byHand does something by chance that is no step.
func (h *held) byHand(r *rand.Rand) {
	h.Helper()
	node, seed := r.Intn(2), r.Uint64()
	h.hand(func(n *net.Net, d [2]*disk.Disk) {
		switch seed % 4 {
		case 0:
			d[node].Crash(true, false, true)
		case 1:
			d[node].Up()
		case 2:
			d[node].Fuse(int(seed % 30))
		case 3:
			n.Send(node, []byte(sector.Mix(seed)))
		}
	})
}
