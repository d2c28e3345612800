package take

import (
	"math"
	"math/rand"
	"slices"
	"strings"
	"testing"

	"pentimento/api"
	"pentimento/disk"
	"pentimento/geom"
	"pentimento/mirror"
	"pentimento/sector"
)

// few are some valid volumes: the least and the greatest, of several trees, with room to undo everything, or less.
func few() []api.Config {
	return []api.Config{
		{Vol: 0, G: api.Geom{N: 1, F: 2, Undo: 1}, Last: 100},
		{Vol: 1, G: api.Geom{N: 1, F: 4, Cow: 2, Undo: 2}, Last: 100},
		{Vol: 7, G: api.Geom{N: 3, F: 2, Cow: 1, Undo: 9}, Last: api.MaxEpoch},
		{Vol: math.MaxUint32, G: api.Geom{N: 5, F: 2, Cow: 3, Undo: 16}, Last: 1000},
		{Vol: 1 << 31, G: api.Geom{N: 9, F: 3, Cow: 7, Undo: 20}, Last: 1 << 40},
		{Vol: 3, G: api.Geom{N: 17, F: 4, Cow: 30, Undo: 60}, Last: 1000},
		{Vol: 0x01020304, G: api.Geom{N: 128, F: 2, Cow: 64, Undo: 320}, Last: api.MaxEpoch},
	}
}

// usual is a volume of a few sectors, with a tree of 5, 3, 2 and 1 nodes, all of which can be undone.
func usual() api.Config {
	return api.Config{Vol: 5, G: api.Geom{N: 5, F: 2, Cow: 2, Undo: 16}, Last: 100}
}

// tight is a volume with room to undo a sector and what is above it, and one thing more.
func tight() api.Config {
	return api.Config{Vol: 6, G: api.Geom{N: 4, F: 2, Undo: 5}, Last: 50}
}

// unfit are numbers of nothing.
func unfit() []int { return []int{-1, -2, math.MinInt, math.MaxInt, 1 << 16, -1 << 32} }

// contents are n sectors, each with bytes of its own.
func contents(n int, c byte) []string {
	var out []string
	for i := range n {
		out = append(out, strings.Repeat(string([]byte{c, byte(i), 0xff, c ^ 0x5a}), 16))
	}
	return out
}

// changed are sectors with others at some places.
func changed(sectors []string, at ...int) []string {
	out := slices.Clone(sectors)
	for _, i := range at {
		out[i] = of(9, out[i]) + of(8, out[i])
	}
	return out
}

// held is a taker, the disk of its volume, and the model of it on a copy.
type held struct {
	*testing.T
	k *Taker
	d *disk.Disk
	m *model
	// The image of the volume's epoch.
	image []string
}

// started is a taker of a volume with sectors of their own bytes.
func started(t *testing.T, c api.Config) *held {
	t.Helper()
	d := made(t, geom.Size(c.G, api.Target))
	image := contents(c.G.N, 1)
	if why := mirror.Format(d, c, image...); why != api.OK {
		t.Fatalf("Format = %d", why)
	}
	return onDisk(t, d, c, image)
}

// onDisk is a taker of the volume that a disk has, which shows this image.
func onDisk(t *testing.T, d *disk.Disk, c api.Config, image []string) *held {
	t.Helper()
	m := &model{c: c, d: d.Copy()}
	m.v = opened(t, m.d)
	return &held{t, New(opened(t, d)), d, m, image}
}

// agree tells if the taker, its volume, or its disk, is not as the model is.
func (h *held) agree(what string) {
	h.Helper()
	same(h.T, what, h.d, h.m.d)
	if s := h.k.State(); s != h.m.state() {
		h.Fatalf("%s: State = %+v, want %+v", what, s, h.m.state())
	}
	if s := h.k.Volume().State(); s != h.m.v.State() {
		h.Fatalf("%s: the volume's State = %+v, want %+v", what, s, h.m.v.State())
	}
}

// has tells if frames are not those that should be.
func (h *held) has(what string, out, want []api.Frame) {
	h.Helper()
	if !slices.EqualFunc(out, want, alike) {
		h.Fatalf("%s = %+v, want %+v", what, out, want)
	}
}

// both does it to both volumes.
func (h *held) both(do func(v *mirror.Volume) api.Errno) {
	h.Helper()
	for _, v := range []*mirror.Volume{h.k.Volume(), h.m.v} {
		if why := do(v); why != api.OK {
			h.Fatal(why)
		}
	}
}

// comes has a frame come, tells if that is not as the model's, and returns what it ends with.
func (h *held) comes(f api.Frame) ([]api.Frame, api.Errno) {
	h.Helper()
	g := f
	g.List = slices.Clone(f.List)
	out, why := h.k.Take(f)
	frames, is := h.m.take(g)
	if why != is {
		h.Fatalf("Take(%+v) = %+v %d, want %+v %d", f, out, why, frames, is)
	}
	h.has("Take", out, frames)
	h.agree("Take")
	if !alike(f, g) {
		h.Fatalf("Take made %+v of %+v", f, g)
	}
	return out, why
}

// take has a frame come that is answered by just one, without an error.
func (h *held) take(f api.Frame) api.Frame {
	h.Helper()
	out, why := h.comes(f)
	if why != api.OK || len(out) != 1 {
		h.Fatalf("Take(%+v) = %+v %d", f, out, why)
	}
	return out[0]
}

// fails has a frame come that is answered by an error alone.
func (h *held) fails(f api.Frame, want api.Errno) {
	h.Helper()
	if out, why := h.comes(f); why != want || len(out) > 0 {
		h.Fatalf("Take(%+v) = %+v %d, want %d", f, out, why, want)
	}
}

// keeps is fails, and nothing has changed.
func (h *held) keeps(f api.Frame, want api.Errno) {
	h.Helper()
	d, s, v, seq := h.d.Copy(), h.k.State(), h.k.Volume().State(), h.m.seq
	h.fails(f, want)
	same(h.T, "Take", h.d, d)
	if h.k.State() != s || h.k.Volume().State() != v || h.m.seq != seq {
		h.Fatalf("State = %+v, want %+v", h.k.State(), s)
	}
}

// refused has a frame come that is answered by an error, and by its Refuse.
func (h *held) refused(f api.Frame, want api.Errno) {
	h.Helper()
	seq := h.m.seq
	out, why := h.comes(f)
	refuse := api.Frame{Kind: api.FrRefuse, Session: f.Session, Epoch: f.Epoch, Seq: seq, Code: int(want)}
	if why != want || len(out) != 1 || !alike(out[0], refuse) {
		h.Fatalf("Take(%+v) = %+v %d, want %d", f, out, why, want)
	}
}

// tick ticks, and tells if that is not as the model's, or not so many frames.
func (h *held) tick(n int) []api.Frame {
	h.Helper()
	out := h.k.Tick()
	h.has("Tick", out, h.m.tick())
	if len(out) != n {
		h.Fatalf("Tick = %+v, want %d frames", out, n)
	}
	h.agree("Tick")
	return out
}

// offer is the Hello of an epoch with these sectors.
func (h *held) offer(session, epoch uint64, sectors []string) api.Frame {
	c := h.m.c
	return api.Frame{Kind: api.FrHello, Session: session, Epoch: epoch, Vol: c.Vol, N: c.G.N, F: c.G.F, Data: root(c.G, sectors)}
}

// answer is what the source answers to Ask or Want for an epoch with these sectors.
func (h *held) answer(f api.Frame, sectors []string) api.Frame {
	h.Helper()
	out := api.Frame{Kind: f.Kind + 1, Session: f.Session, Epoch: f.Epoch, Index: f.Index}
	switch f.Kind {
	case api.FrAsk:
		out.List = parts(digests(h.m.c.G, sectors), below(h.m.c.G)[f.Index])
	case api.FrWant:
		out.Data = sectors[f.Index]
	default:
		h.Fatalf("no answer to %+v", f)
	}
	return out
}

// until answers as long as frames have none of these kinds, and returns the one that has.
func (h *held) until(f api.Frame, sectors []string, kinds ...int) api.Frame {
	h.Helper()
	for !slices.Contains(kinds, f.Kind) {
		f = h.take(h.answer(f, sectors))
	}
	return f
}

// shows tells if the volume does not have this epoch, or does not show these sectors.
func (h *held) shows(epoch uint64, sectors []string) {
	h.Helper()
	v := h.k.Volume()
	if s := v.State(); s.Epoch != epoch || s.Root != root(h.m.c.G, sectors) {
		h.Fatalf("the volume's State = %+v, want epoch %d", s, epoch)
	}
	for i, data := range sectors {
		if s, why := v.Read(i); s != data || why != api.OK {
			h.Fatalf("Read(%d) = %q %d, want %q", i, s, why, data)
		}
	}
}

// begun is a taker that is busy, in session 9 with epoch 4, and awaits what this frame asks for.
func begun(t *testing.T, c api.Config, sectors []string) (*held, api.Frame) {
	t.Helper()
	h := started(t, c)
	f := h.take(h.offer(9, 4, sectors))
	if !h.k.State().Busy {
		t.Fatal("it is not busy")
	}
	return h, f
}

// The document's example.
func TestExample(t *testing.T) {
	h := started(t, usual())
	out, why := h.k.Take(h.offer(1, 0, h.image))
	if why != api.OK || len(out) != 1 || !alike(out[0], api.Frame{Kind: api.FrAck, Session: 1}) {
		t.Errorf("Take = %+v %d", out, why)
	}
}

// Without a taker, and without a volume, there is nothing.
func TestNone(t *testing.T) {
	for _, k := range []*Taker{nil, New(nil), {}} {
		for kind := -1; kind < 10; kind++ {
			if out, why := k.Take(api.Frame{Kind: kind}); len(out) > 0 || why != api.ErrNil {
				t.Errorf("Take = %v %d", out, why)
			}
		}
		if out := k.Tick(); len(out) > 0 {
			t.Errorf("Tick = %v", out)
		}
		if k.State() != (State{}) || k.Volume() != nil {
			t.Errorf("State = %v, Volume = %v", k.State(), k.Volume())
		}
	}
	if New(nil) == nil {
		t.Error("New(nil) = nil")
	}
}

// A volume that was not opened has no disk; it has epoch 0, and no root.
func TestZeroVolume(t *testing.T) {
	k := New(&mirror.Volume{})
	for kind := -1; kind < 10; kind++ {
		for _, session := range []uint64{0, 1} {
			for _, epoch := range []uint64{0, 1} {
				k.Take(api.Frame{Kind: kind, Session: session, Epoch: epoch, Data: strings.Repeat("d", 32)})
				k.Tick()
			}
		}
	}
	if s := k.State(); s != (State{}) {
		t.Errorf("State = %+v", s)
	}
	if out, why := k.Take(api.Frame{Kind: api.FrHello, Session: 1}); len(out) > 0 || why != api.ErrNil {
		t.Errorf("Take = %+v %d", out, why)
	}
}

// P24.1: a new taker is not busy, and has acknowledged nothing, whatever its volume knows.
func TestNew(t *testing.T) {
	for _, c := range few() {
		h := started(t, c)
		for _, session := range []uint64{0, 3} {
			h.both(func(v *mirror.Volume) api.Errno { return v.Session(session) })
			if h.k.State() != (State{}) || h.k.Volume() == nil {
				t.Fatalf("State = %+v, Volume = %v", h.k.State(), h.k.Volume())
			}
			h.tick(0)
			for kind := -1; kind < 10; kind++ {
				want := api.ErrKind
				if kind == api.FrNodes || kind == api.FrData {
					want = api.ErrState
				}
				if kind != api.FrHello {
					h.keeps(api.Frame{Kind: kind, Session: session, Data: "x"}, want)
				}
			}
		}
		if v := h.k.Volume(); New(v).Volume() != v {
			t.Fatal("another volume")
		}
	}
}

// P24.2, P24.3, P24.4: a session, frame by frame.
func TestSession(t *testing.T) {
	h := started(t, usual())
	next := changed(h.image, 1, 4)
	all := digests(h.m.c.G, next)
	is := func(f api.Frame, kind, index int) {
		t.Helper()
		if want := (api.Frame{Kind: kind, Session: 9, Epoch: 4, Seq: h.m.seq - 1, Index: index}); !alike(f, want) {
			t.Fatalf("%+v, want %+v", f, want)
		}
	}
	state := func(want State) {
		t.Helper()
		if s := h.k.State(); s != want {
			t.Fatalf("State = %+v, want %+v", s, want)
		}
	}
	nodes := func(node int, children ...int) api.Frame {
		return api.Frame{Kind: api.FrNodes, Session: 9, Epoch: 4, Index: node, List: parts(all, children)}
	}
	data := func(i int) api.Frame {
		return api.Frame{Kind: api.FrData, Session: 9, Epoch: 4, Index: i, Data: next[i]}
	}
	is(h.take(h.offer(9, 4, next)), api.FrAsk, 10)
	state(State{Busy: true, Epoch: 4, Kind: 1, Index: 10})
	if s := h.k.Volume().State(); s.Session != 9 || s.Try != 4 || s.Epoch != 0 {
		t.Fatalf("the volume's State = %+v", s)
	}
	is(h.take(nodes(10, 8, 9)), api.FrAsk, 8)
	state(State{Busy: true, Epoch: 4, Kind: 1, Index: 8, Asked: 1, Told: 2})
	is(h.take(nodes(8, 5, 6)), api.FrAsk, 9)
	is(h.take(nodes(9, 7)), api.FrAsk, 5)
	is(h.take(nodes(5, 0, 1)), api.FrAsk, 7)
	is(h.take(nodes(7, 4)), api.FrWant, 1)
	state(State{Busy: true, Epoch: 4, Kind: 2, Index: 1, Asked: 5, Told: 8})
	is(h.tick(1)[0], api.FrWant, 1)
	is(h.take(data(1)), api.FrWant, 4)
	state(State{Busy: true, Epoch: 4, Kind: 2, Index: 4, Asked: 5, Told: 8, Came: 1})
	h.shows(0, h.image)
	is(h.take(data(4)), api.FrAck, 0)
	state(State{Acked: 4, Asked: 5, Told: 8, Came: 2})
	h.shows(4, next)
	is(h.tick(1)[0], api.FrAck, 0)
	is(h.tick(1)[0], api.FrAck, 0)
	if h.m.seq != 11 {
		t.Errorf("%d frames", h.m.seq)
	}
}

// P24.2, P24.3: session by session, over volumes of all kinds, the target gets each epoch's sectors, and no others are requested.
func TestSessions(t *testing.T) {
	r := rand.New(rand.NewSource(24))
	for _, c := range few()[1:] {
		h := started(t, c)
		for n := range uint64(8) {
			next := slices.Clone(h.image)
			// As many as can be undone with all that is above them.
			for range r.Intn(c.G.Undo/(geom.Height(c.G)+2) + 1) {
				next = changed(next, r.Intn(c.G.N))
			}
			differ := 0
			for i := range next {
				if next[i] != h.image[i] {
					differ++
				}
			}
			f := h.until(h.take(h.offer(n/2+1, 2*n+1, next)), next, api.FrAck)
			if f.Session != n/2+1 || f.Epoch != 2*n+1 {
				t.Fatalf("%+v", f)
			}
			h.shows(2*n+1, next)
			if s := h.k.State(); s.Came != differ || s.Told > c.G.F*geom.Height(c.G)*differ || s.Acked != 2*n+1 {
				t.Fatalf("State = %+v, %d sectors differ", s, differ)
			}
			h.image = next
		}
	}
}

// P24.2: if no sector differs, the epoch is acknowledged at once, and nothing but the record is written.
func TestNothing(t *testing.T) {
	for _, c := range few() {
		h := started(t, c)
		before := h.d.Copy()
		if f := h.take(h.offer(5, 7, h.image)); f.Kind != api.FrAck || f.Epoch != 7 || f.Session != 5 {
			t.Fatalf("%+v", f)
		}
		h.shows(7, h.image)
		if h.k.State() != (State{Acked: 7}) {
			t.Fatalf("State = %+v", h.k.State())
		}
		for at := 5; at < h.d.Len(); at++ {
			a, _ := before.Kept(at)
			if b, _ := h.d.Kept(at); a != b {
				t.Fatalf("sector %d was written", at)
			}
		}
	}
}

// P24.2, P24.5: a Hello of an earlier session, another volume or geometry changes nothing, whether the taker is busy or not; the errors have their order, ahead of all others.
func TestHelloErrors(t *testing.T) {
	h := started(t, usual())
	h.both(func(v *mirror.Volume) api.Errno { return v.Session(9) })
	next := changed(h.image, 2)
	check := func() {
		t.Helper()
		unchanged := func(want api.Errno, change func(f *api.Frame)) {
			t.Helper()
			for _, epoch := range []uint64{0, 3, 4, 5, 101, math.MaxUint64} {
				for _, session := range []uint64{9, 10, math.MaxUint64} {
					for _, data := range []string{root(h.m.c.G, next), root(h.m.c.G, h.image), "", "x"} {
						f := h.offer(session, epoch, next)
						f.Data = data
						change(&f)
						d, s, v := h.d.Copy(), h.k.State(), h.k.Volume().State()
						h.refused(f, want)
						same(t, "Take", h.d, d)
						if h.k.State() != s || h.k.Volume().State() != v {
							t.Fatalf("State = %+v, want %+v", h.k.State(), s)
						}
						for _, old := range []uint64{0, 1, 8} {
							f.Session = old
							h.keeps(f, api.ErrSession)
						}
					}
				}
			}
		}
		for _, vol := range []uint32{0, 4, 6, math.MaxUint32} {
			unchanged(api.ErrVolume, func(f *api.Frame) { f.Vol = vol })
			unchanged(api.ErrVolume, func(f *api.Frame) { f.Vol, f.N, f.F = vol, 1, 4 })
		}
		for _, n := range append(unfit(), 0, 4, 6, 128) {
			unchanged(api.ErrGeom, func(f *api.Frame) { f.N = n })
			unchanged(api.ErrGeom, func(f *api.Frame) { f.F = n })
			unchanged(api.ErrGeom, func(f *api.Frame) { f.N, f.F = n, n })
		}
		for _, session := range []uint64{0, 1, 8} {
			h.keeps(h.offer(session, 4, next), api.ErrSession)
		}
	}
	check()
	f := h.take(h.offer(9, 4, next))
	check()
	f = h.until(f, next, api.FrWant)
	check()
	h.until(f, next, api.FrAck)
	h.image = next
	check()
	h.shows(4, next)
}

// P24.2: of an epoch that the volume has, the root tells whether it is the same; epochs below it are no more.
func TestHelloOld(t *testing.T) {
	h := started(t, usual())
	other := changed(h.image, 0)
	// Epoch 0 is acknowledged, but not told again.
	if f := h.take(h.offer(1, 0, h.image)); !alike(f, api.Frame{Kind: api.FrAck, Session: 1}) {
		t.Fatalf("%+v", f)
	}
	h.tick(0)
	h.refused(h.offer(1, 0, other), api.ErrRoot)
	h.until(h.take(h.offer(2, 5, other)), other, api.FrAck)
	for session := uint64(2); session < 5; session++ {
		h.refused(h.offer(session, 4, other), api.ErrEpoch)
		h.refused(h.offer(session, 0, h.image), api.ErrEpoch)
		h.refused(h.offer(session, 5, h.image), api.ErrRoot)
		f := h.offer(session, 5, other)
		for _, data := range []string{"", "x", f.Data[:31], f.Data + "x", strings.Repeat("\x00", 32)} {
			f.Data = data
			h.refused(f, api.ErrRoot)
		}
		if s := h.k.Volume().State(); s.Session != session {
			t.Fatalf("session %d, want %d", s.Session, session)
		}
		acked := uint64(0)
		if session == 2 {
			acked = 5
		}
		if s := h.k.State(); s != (State{Acked: acked, Asked: s.Asked, Told: s.Told, Came: 1}) {
			t.Fatalf("State = %+v", s)
		}
		h.tick(int(acked / 5))
		for range 2 {
			if f := h.take(h.offer(session, 5, other)); f.Kind != api.FrAck || f.Session != session || f.Epoch != 5 {
				t.Fatalf("%+v", f)
			}
		}
		if f := h.tick(1)[0]; f.Kind != api.FrAck || f.Session != session || f.Epoch != 5 {
			t.Fatalf("%+v", f)
		}
	}
	h.shows(5, other)
}

// P24.2: what Begin rejects is refused: an epoch behind the last one, a root that is none. The session is known nevertheless.
func TestHelloBegin(t *testing.T) {
	h := started(t, usual())
	next := changed(h.image, 3)
	h.refused(h.offer(2, 101, next), api.ErrEpoch)
	h.refused(h.offer(3, math.MaxUint64, next), api.ErrEpoch)
	f := h.offer(4, 100, next)
	for _, data := range []string{"", "x", f.Data[:31], f.Data + "x"} {
		f.Data = data
		h.refused(f, api.ErrLength)
		f.Epoch = 101
		h.refused(f, api.ErrEpoch)
		f.Epoch = 100
	}
	if s := h.k.Volume().State(); s.Session != 4 || s.Try != 0 || h.k.State() != (State{}) {
		t.Fatalf("%+v", s)
	}
	h.until(h.take(h.offer(4, 100, next)), next, api.FrAck)
	h.shows(100, next)
	h.refused(h.offer(5, 101, next), api.ErrEpoch)
}

// P24.2: when there were as many tries as there may be, the offer is refused.
func TestHelloFull(t *testing.T) {
	h := started(t, few()[2])
	for range 1<<20 - 2 {
		for _, v := range []*mirror.Volume{h.k.Volume(), h.m.v} {
			if v.Begin(1, strings.Repeat("r", 32)) != api.OK || v.Back() != api.OK {
				t.Fatal("Begin")
			}
		}
	}
	next := changed(h.image, 1)
	h.until(h.take(h.offer(1, 1, next)), next, api.FrAck)
	h.refused(h.offer(1, 2, h.image), api.ErrFull)
	h.refused(h.offer(2, 2, h.image), api.ErrFull)
	h.refused(h.offer(2, 1, h.image), api.ErrRoot)
	if f := h.take(h.offer(3, 1, next)); f.Kind != api.FrAck {
		t.Fatalf("%+v", f)
	}
	h.shows(1, next)
}

// A try that is not the taker's is not ended by it; it can not begin then.
func TestHelloState(t *testing.T) {
	h := started(t, usual())
	h.both(func(v *mirror.Volume) api.Errno { return v.Begin(3, strings.Repeat("r", 32)) })
	h.fails(h.offer(1, 5, changed(h.image, 3)), api.ErrState)
	if s := h.k.Volume().State(); s.Try != 3 || h.k.State() != (State{}) {
		t.Fatalf("%+v", s)
	}
}

// P24.2: a taker that is busy repeats what it awaits to a Hello of its session and epoch, whatever root that has.
func TestHelloAgain(t *testing.T) {
	next := changed(contents(5, 1), 0, 3)
	h, f := begun(t, usual(), next)
	for f.Kind != api.FrAck {
		for _, sectors := range [][]string{next, h.image, changed(next, 1)} {
			before := h.k.State()
			g := h.take(h.offer(9, 4, sectors))
			if g.Kind != f.Kind || g.Index != f.Index || g.Session != 9 || g.Epoch != 4 || h.k.State() != before {
				t.Fatalf("%+v, want %+v", g, f)
			}
		}
		f = h.take(h.answer(f, next))
	}
	h.shows(4, next)
}

// P24.2: another epoch, or another session, ends what goes on, and undoes it; then it is what it is.
func TestHelloOther(t *testing.T) {
	next, last := changed(contents(5, 1), 0, 3), changed(contents(5, 1), 2)
	for _, session := range []uint64{9, 10} {
		for _, epoch := range []uint64{3, 4, 5} {
			if session == 9 && epoch == 4 {
				continue
			}
			for _, kind := range []int{api.FrAsk, api.FrWant} {
				h, f := begun(t, usual(), next)
				f = h.until(f, next, kind)
				if kind == api.FrWant {
					h.take(h.answer(f, next))
				}
				f = h.take(h.offer(session, epoch, last))
				if f.Kind != api.FrAsk || f.Session != session || f.Epoch != epoch || f.Index != 10 {
					t.Fatalf("%+v", f)
				}
				if s := h.k.State(); s != (State{Busy: true, Epoch: epoch, Kind: 1, Index: 10}) {
					t.Fatalf("State = %+v", s)
				}
				h.shows(0, h.image)
				h.until(f, last, api.FrAck)
				h.shows(epoch, last)
			}
		}
		// What is refused, or had already, ends it too.
		for _, end := range []struct {
			epoch uint64
			data  []string
			why   api.Errno
		}{{0, next, api.ErrRoot}, {101, next, api.ErrEpoch}, {0, contents(5, 1), api.OK}} {
			h, f := begun(t, usual(), next)
			h.take(h.answer(h.until(f, next, api.FrWant), next))
			undone := h.k.Volume().State().Undo
			if out, why := h.comes(h.offer(session, end.epoch, end.data)); len(out) != 1 || why != end.why {
				t.Fatalf("%+v %d", out, why)
			}
			if s := h.k.State(); undone != 1 || s.Busy || s.Kind != 0 || s.Index != 0 || s.Epoch != 0 || s.Came != 1 || h.k.Volume().State().Try != 0 {
				t.Fatalf("State = %+v, %d was undone", s, undone)
			}
			if data, _ := h.d.Read(6); data != h.image[0] {
				t.Fatal("it is not undone")
			}
			h.fails(h.offer(8, 4, next), api.ErrSession)
			h.fails(api.Frame{Kind: api.FrData, Session: session, Epoch: 4, Index: 3, Data: next[3]}, api.ErrState)
		}
	}
}

// P24.2, P24.4: in another session nothing has been acknowledged.
func TestAnotherSession(t *testing.T) {
	h := started(t, usual())
	next := changed(h.image, 1)
	h.until(h.take(h.offer(1, 2, next)), next, api.FrAck)
	h.refused(h.offer(1, 1, next), api.ErrEpoch)
	if s := h.k.State(); s.Acked != 2 {
		t.Fatalf("State = %+v", s)
	}
	last := changed(next, 1)
	h.take(h.offer(1, 3, last))
	// It is acknowledged still, but what it awaits comes first.
	if s := h.k.State(); s.Acked != 2 || h.tick(1)[0].Kind != api.FrAsk {
		t.Fatalf("State = %+v", s)
	}
	h.refused(h.offer(1, 101, next), api.ErrEpoch)
	if f := h.tick(1)[0]; f.Kind != api.FrAck || f.Epoch != 2 {
		t.Fatalf("%+v", f)
	}
	h.take(h.offer(2, 3, last))
	if s := h.k.State(); s.Acked != 0 {
		t.Fatalf("State = %+v", s)
	}
	h.refused(h.offer(2, 101, next), api.ErrEpoch)
	h.tick(0)
	// A taker that is new knows nothing of it, in the same session either.
	h.until(h.take(h.offer(3, 4, next)), next, api.FrAck)
	h = onDisk(t, h.d, h.m.c, next)
	h.tick(0)
	h.refused(h.offer(3, 3, next), api.ErrEpoch)
	h.tick(0)
	h.take(h.offer(3, 4, next))
	h.tick(1)
}

// P24.3: frames that are not for a target are of another kind, whatever else they are.
func TestKinds(t *testing.T) {
	next := changed(contents(5, 1), 2)
	h, f := begun(t, usual(), next)
	for _, kind := range append(unfit(), 0, api.FrRefuse, api.FrAsk, api.FrWant, api.FrAck, 8, 9) {
		for _, session := range []uint64{0, 8, 9, 10} {
			h.keeps(api.Frame{Kind: kind, Session: session, Epoch: 4, Index: 10}, api.ErrKind)
		}
	}
	h.until(f, next, api.FrAck)
	for _, kind := range append(unfit(), 0, api.FrRefuse, api.FrAsk, api.FrWant, api.FrAck, 8, 9) {
		h.keeps(api.Frame{Kind: kind, Session: 9, Epoch: 4}, api.ErrKind)
	}
}

// P24.3, P24.5: Nodes and Data of other sessions and epochs change nothing, nor do those that are not awaited; the errors have their order.
func TestSupplyErrors(t *testing.T) {
	next := changed(contents(5, 1), 0, 4)
	h, f := begun(t, usual(), next)
	for f.Kind != api.FrAck {
		right := h.answer(f, next)
		for _, wrong := range []int{api.FrNodes, api.FrData} {
			for _, session := range []uint64{0, 8, 10, math.MaxUint64} {
				g := right
				g.Kind, g.Session = wrong, session
				h.keeps(g, api.ErrSession)
				g.Epoch = 5
				h.keeps(g, api.ErrSession)
			}
			for _, epoch := range []uint64{0, 3, 5, math.MaxUint64} {
				g := right
				g.Kind, g.Epoch = wrong, epoch
				h.keeps(g, api.ErrEpoch)
				g.Index = -1
				h.keeps(g, api.ErrEpoch)
			}
			for index := -2; index < 14; index++ {
				g := right
				g.Kind, g.Index = wrong, index
				if wrong != right.Kind || index != right.Index {
					h.keeps(g, api.ErrState)
				}
			}
			for _, index := range unfit() {
				g := right
				g.Kind, g.Index = wrong, index
				h.keeps(g, api.ErrState)
			}
		}
		g := right
		if right.Kind == api.FrNodes {
			for _, list := range [][]string{nil, right.List[1:], append(slices.Clone(right.List), right.List[0])} {
				g.List = list
				h.keeps(g, api.ErrLong)
			}
		} else {
			for _, data := range []string{"", right.Data[1:], right.Data + "x"} {
				g.Data = data
				h.keeps(g, api.ErrLength)
			}
		}
		f = h.take(right)
	}
	// When it is not busy any more, that is told ahead of the epoch.
	for _, kind := range []int{api.FrNodes, api.FrData} {
		h.keeps(api.Frame{Kind: kind, Session: 9, Epoch: 4}, api.ErrState)
		h.keeps(api.Frame{Kind: kind, Session: 9, Epoch: 5}, api.ErrState)
		h.keeps(api.Frame{Kind: kind, Session: 8, Epoch: 4}, api.ErrSession)
	}
	h.shows(4, next)
}

// givenUp tells if a taker has not given up: it is not busy, and all is as it was.
func (h *held) givenUp(acked uint64) {
	h.Helper()
	if s := h.k.State(); s.Busy || s.Epoch != 0 || s.Kind != 0 || s.Index != 0 || s.Acked != acked {
		h.Fatalf("State = %+v", s)
	}
	if s := h.k.Volume().State(); s.Try != 0 || s.Undo != 0 {
		h.Fatalf("the volume's State = %+v", s)
	}
	for i, data := range h.image {
		if s, _ := h.d.Read(6 + i); s != data {
			h.Fatalf("sector %d is %q", i, s)
		}
	}
	h.tick(min(int(acked), 1))
}

// P24.3: digests, and sectors, that are not those of the root: the taker gives up.
func TestGiveUpDigest(t *testing.T) {
	next := changed(contents(5, 1), 0, 4)
	// So many answers are right.
	for n := range 7 {
		h, f := begun(t, usual(), next)
		for range n {
			f = h.take(h.answer(f, next))
		}
		g := h.answer(f, next)
		if g.Kind == api.FrNodes {
			g.List[len(g.List)-1] = strings.Repeat("x", 32)
		} else {
			g.Data = sector.Fill(3)
		}
		before := h.k.State()
		h.refused(g, api.ErrDigest)
		if s := h.k.State(); s.Asked != before.Asked || s.Told != before.Told || s.Came != before.Came {
			t.Fatalf("State = %+v, and before %+v", s, before)
		}
		h.givenUp(0)
		// The same offer begins from the root.
		h.until(h.take(h.offer(9, 4, next)), next, api.FrAck)
		h.shows(4, next)
	}
}

// P24.3: when a sector can't be undone, the taker gives up, though the walk has taken it.
func TestGiveUpUndo(t *testing.T) {
	c := tight()
	c.G.Undo = 2
	h := started(t, c)
	h.take(h.offer(8, 1, h.image))
	next := changed(h.image, 0, 1, 3)
	h.until(h.take(h.offer(8, 2, changed(h.image, 2))), changed(h.image, 2), api.FrWant)
	f := h.until(h.take(h.offer(8, 4, next)), next, api.FrWant)
	f = h.take(h.answer(f, next))
	f = h.take(h.answer(f, next))
	h.refused(h.answer(f, next), api.ErrUndo)
	if s := h.k.State(); s.Came != 3 || s.Asked != 3 || s.Told != 6 {
		t.Fatalf("State = %+v", s)
	}
	h.givenUp(1)
	h.shows(1, h.image)
}

// P24.3: so it does when the nodes can't be undone, which is known at the end.
func TestGiveUpFinish(t *testing.T) {
	h := started(t, tight())
	next := changed(h.image, 0, 3)
	f := h.until(h.take(h.offer(8, 1, next)), next, api.FrWant)
	f = h.take(h.answer(f, next))
	h.refused(h.answer(f, next), api.ErrUndo)
	h.givenUp(0)
	h.shows(0, h.image)
	// One sector can be undone, with all that is above it.
	next = changed(h.image, 3)
	h.until(h.take(h.offer(8, 1, next)), next, api.FrAck)
	h.shows(1, next)
}

// bent is a disk whose volume has another root than that of its tree: the root's digest is one's own, the rest is right.
func bent(t *testing.T, own string) *held {
	t.Helper()
	h := started(t, usual())
	for at, data := range map[int]string{
		geom.Node(h.m.c.G, 10): raw(6, num(2, 10)+own),
		3:                      raw(4, num(8, 6)+num(8, 0)+own),
	} {
		if why := h.d.Write(at, data); why != api.OK {
			t.Fatalf("Write = %d", why)
		}
	}
	return onDisk(t, h.d, h.m.c, h.image)
}

// P24.3: when the walk is at its end, and the tree has not that root, the taker gives up; so it does in the same call as it began.
func TestGiveUpRoot(t *testing.T) {
	h := bent(t, strings.Repeat("r", 32))
	f := h.take(h.offer(1, 1, h.image))
	// Below the root nothing differs, and no sector is set that would change it.
	h.refused(h.answer(f, h.image), api.ErrRoot)
	h.givenUp(0)
	// Its own root is the same at once.
	g := h.offer(1, 1, h.image)
	g.Data = strings.Repeat("r", 32)
	if f := h.take(g); f.Kind != api.FrAck {
		t.Fatalf("%+v", f)
	}
}

// P24.2, P24.3: the disk goes down at each write and flush of a row of frames: its error is returned, and the volume shows one image behind that.
func TestFuses(t *testing.T) {
	r := rand.New(rand.NewSource(11))
	for _, c := range []api.Config{usual(), tight()} {
		first := contents(c.G.N, 1)
		second, third := changed(first, 1), changed(changed(first, 1), 0, 3)
		for fuse := 0; ; fuse++ {
			h := started(t, c)
			h.d.Fuse(fuse)
			h.m.d.Fuse(fuse)
			images := map[uint64][]string{0: first, 1: second, 2: second, 3: third, 4: third}
			h.row(images)
			if !h.d.Down() {
				break
			}
			h.down(images)
			for range 4 {
				x := h.d.Copy()
				keep := make([]bool, len(x.Waits()))
				for i := range keep {
					keep[i] = r.Intn(2) == 0
				}
				x.Crash(keep...)
				x.Up()
				h := onDisk(t, x, c, nil)
				epoch := h.k.Volume().State().Epoch
				h.shows(epoch, images[epoch])
				h.image = images[epoch]
				h.until(h.take(h.offer(20, 5, second)), second, api.FrAck, api.FrRefuse)
				h.shows(5, second)
			}
		}
	}
}

// row are sessions, up to the first error of the disk.
func (h *held) row(images map[uint64][]string) {
	h.Helper()
	session := uint64(0)
	for _, epoch := range []uint64{1, 0, 2, 3, 1, 4} {
		session++
		for _, stop := range []int{api.FrWant, api.FrAck} {
			// A first try is not finished.
			out, why := h.comes(h.offer(session, epoch, images[epoch]))
			for why == api.OK && out[0].Kind != stop && out[0].Kind != api.FrAck {
				out, why = h.comes(h.answer(out[0], images[epoch]))
			}
			if why == api.OK && out[0].Kind == api.FrWant {
				_, why = h.comes(h.answer(out[0], images[epoch]))
			}
			if why == api.ErrDown {
				return
			}
			session++
		}
	}
}

// down tells if a taker whose disk is down does not answer with its errors.
func (h *held) down(images map[uint64][]string) {
	h.Helper()
	for _, session := range []uint64{h.m.session, h.m.session + 1} {
		for epoch := range uint64(5) {
			h.comes(h.offer(session, epoch, images[epoch]))
			h.has("Tick", h.k.Tick(), h.m.tick())
			h.agree("Tick")
		}
	}
}

// P24.3, P24.4: when the disk goes down as the try is finished, the taker is busy still, and awaits nothing: nothing is told.
func TestFinishDown(t *testing.T) {
	next := changed(contents(5, 1), 2)
	h, f := begun(t, usual(), next)
	f = h.until(f, next, api.FrWant)
	// The sector is 5 writes and flushes: the fuse ends behind these.
	h.d.Fuse(6)
	h.m.d.Fuse(6)
	h.fails(h.answer(f, next), api.ErrDown)
	if s := h.k.State(); s != (State{Busy: true, Epoch: 4, Asked: 3, Told: 6, Came: 1}) && s != (State{Busy: true, Epoch: 4, Asked: 3, Told: 5, Came: 1}) {
		t.Fatalf("State = %+v", s)
	}
	h.tick(0)
	if out, why := h.comes(h.offer(9, 4, next)); len(out) > 0 || why != api.OK {
		t.Fatalf("Take = %+v %d", out, why)
	}
	h.fails(h.offer(10, 4, next), api.ErrDown)
	if !h.k.State().Busy || h.k.Volume().State().Session != 9 {
		t.Fatal("Back has failed, and it is not busy")
	}
}

// P24.3: when Back fails as the taker gives up, that error is returned, and no Refuse.
func TestGiveUpDown(t *testing.T) {
	next := changed(contents(5, 1), 0, 4)
	h, f := begun(t, usual(), next)
	f = h.until(f, next, api.FrWant)
	f = h.take(h.answer(f, next))
	g := h.answer(f, next)
	g.Data = sector.Fill(1)
	for range 2 {
		h.d.Crash()
		h.m.d.Crash()
		before := h.k.State()
		h.keeps(g, api.ErrDown)
		if s := h.k.State(); s != before || !s.Busy {
			t.Fatalf("State = %+v, want %+v", s, before)
		}
	}
}

// P24.4: State tells of the last walk what it had, until the next one begins.
func TestCounts(t *testing.T) {
	next := changed(contents(5, 1), 0, 4)
	h, f := begun(t, usual(), next)
	h.until(f, next, api.FrAck)
	want := State{Acked: 4, Asked: 5, Told: 8, Came: 2}
	if s := h.k.State(); s != want {
		t.Fatalf("State = %+v", s)
	}
	h.refused(h.offer(9, 3, next), api.ErrEpoch)
	h.refused(h.offer(9, 200, next), api.ErrEpoch)
	if s := h.k.State(); s != want {
		t.Fatalf("State = %+v", s)
	}
	h.take(h.offer(9, 6, h.image))
	if s := h.k.State(); s != (State{Busy: true, Epoch: 6, Kind: 1, Index: 10, Acked: 4}) {
		t.Fatalf("State = %+v", s)
	}
}

// Lists are neither kept nor changed, and those that were returned are the caller's.
func TestMemory(t *testing.T) {
	next := changed(contents(5, 1), 0, 4)
	h, f := begun(t, usual(), next)
	for f.Kind != api.FrAck {
		g := h.answer(f, next)
		out, why := h.comes(g)
		if why != api.OK {
			t.Fatal(why)
		}
		for i := range g.List {
			g.List[i] = "another"
		}
		f = out[0]
		out[0] = api.Frame{Kind: 99}
		_ = append(out, api.Frame{})
		h.tick(1)[0].Index = 77
	}
	h.shows(4, next)
}

// random does something by chance to a taker and to its model: images are those of the epochs that may be offered.
func (h *held) random(r *rand.Rand, images [][]string) {
	h.Helper()
	kind, index := h.m.next()
	epoch := uint64(r.Intn(len(images)))
	f := h.offer(h.m.session, epoch, images[epoch])
	switch k := r.Intn(60); {
	case k < 4:
		h.has("Tick", h.k.Tick(), h.m.tick())
		h.agree("Tick")
		return
	case k < 5:
		f.Session += uint64(r.Intn(4))
	case k < 8:
		f.Epoch = h.m.epoch
	case h.m.busy && kind != 0:
		// Mostly of the image that was offered.
		f = h.answer(api.Frame{Kind: kind, Session: h.m.session, Epoch: h.m.epoch, Index: index}, images[min(int(h.m.epoch), len(images)-1)])
	}
	switch r.Intn(100) {
	case 0:
		f.Kind = r.Intn(10)
	case 1:
		f.Session = max(f.Session, 1) - 1
	case 2:
		f.Epoch++
	case 3:
		f.Index += r.Intn(3) - 1
	case 4:
		f.Data = images[r.Intn(len(images))][0]
	case 5:
		f.Data = ""
	case 6:
		if len(f.List) > 0 {
			f.List[r.Intn(len(f.List))] = of(1)
		}
	case 7:
		f.List = append(f.List, of(1))
	case 8:
		f.Vol, f.N = f.Vol+uint32(r.Intn(2)), f.N+r.Intn(2)
	}
	h.comes(f)
}

// P24.1 to P24.5: rows by chance, over volumes of all kinds, also on disks that go down, against the model.
func TestRows(t *testing.T) {
	r := rand.New(rand.NewSource(24))
	for _, c := range few() {
		images := [][]string{contents(c.G.N, 1)}
		for len(images) < 60 {
			last := images[len(images)-1]
			for range r.Intn(4) {
				last = changed(last, r.Intn(c.G.N))
			}
			images = append(images, last)
		}
		roots := map[string][]string{}
		for _, image := range images {
			roots[root(c.G, image)] = image
		}
		h := started(t, c)
		for range 3000 {
			if r.Intn(60) == 0 {
				fuse := r.Intn(20)
				h.d.Fuse(fuse)
				h.m.d.Fuse(fuse)
			}
			low := int(h.k.Volume().State().Epoch)
			h.random(r, images[:min(len(images), low+5)])
			if h.d.Down() || r.Intn(200) == 0 {
				h.d.Crash(r.Intn(2) == 0, r.Intn(2) == 0)
				h.d.Up()
				h = onDisk(t, h.d, c, nil)
			}
			s := h.k.Volume().State()
			h.shows(s.Epoch, roots[s.Root])
		}
		// Where a sector and its node can't be undone, there is no other image.
		if s := h.k.Volume().State(); c.G.Undo > 1 && s.Root == root(c.G, images[0]) {
			t.Errorf("the volume came to epoch %d", s.Epoch)
		}
	}
}
