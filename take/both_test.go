package take

import (
	"math/rand"
	"slices"
	"testing"

	"pentimento/api"
	"pentimento/disk"
	"pentimento/geom"
	"pentimento/origin"
	"pentimento/sector"
	"pentimento/send"
)

// both are a sender and a taker, and the frames that are on their way to each.
type both struct {
	*testing.T
	s        *send.Sender
	k        *Taker
	from, to *disk.Disk
	// Those to the source, and those to the target.
	way [2][]api.Frame
	// The sectors of the source, and those of each epoch.
	now    []string
	images map[uint64][]string
	// The greatest epoch that the source knows the target to have.
	acked uint64
}

// joined are a sender and a taker of two volumes that differ in all sectors.
func joined(t *testing.T, c api.Config) *both {
	t.Helper()
	h := started(t, c)
	b := &both{T: t, k: h.k, to: h.d, from: made(t, geom.Size(c.G, api.Source)), now: contents(c.G.N, 2)}
	if why := origin.Format(b.from, c, b.now...); why != api.OK {
		t.Fatalf("Format = %d", why)
	}
	b.riseSource()
	b.images = map[uint64][]string{0: h.image}
	return b
}

// riseSource starts the source.
func (b *both) riseSource() {
	b.Helper()
	v, why := origin.Open(b.from)
	if why != api.OK {
		b.Fatalf("Open = %d", why)
	}
	b.s = send.New(v)
}

// post puts frames on their way to a node.
func (b *both) post(node int, l ...api.Frame) { b.way[node] = append(b.way[node], l...) }

// deliver has frame i to a node come.
func (b *both) deliver(node, i int) {
	b.Helper()
	f := b.way[node][i]
	b.way[node] = slices.Delete(b.way[node], i, i+1)
	if node == api.Source {
		l, _ := b.s.Take(f)
		b.post(api.Target, l...)
	} else {
		l, _ := b.k.Take(f)
		b.post(api.Source, l...)
	}
	b.acked = max(b.acked, b.s.Volume().State().Acked)
}

// seal seals an epoch.
func (b *both) seal() {
	b.Helper()
	epoch, why := b.s.Volume().Seal()
	if why != api.OK {
		b.Fatalf("Seal = %d", why)
	}
	b.images[epoch] = slices.Clone(b.now)
}

// look tells if the target does not show the image of its epoch, or has less than the source knows.
func (b *both) look(before uint64) {
	b.Helper()
	v := b.k.Volume()
	epoch := v.State().Epoch
	if epoch < before || epoch < b.acked {
		b.Fatalf("epoch %d behind %d, acknowledged %d", epoch, before, b.acked)
	}
	for i, want := range b.images[epoch] {
		if s, why := v.Read(i); s != want || why != api.OK {
			b.Fatalf("epoch %d: Read(%d) = %q %d, want %q", epoch, i, s, why, want)
		}
	}
}

// random does something by chance.
func (b *both) random(r *rand.Rand) {
	b.Helper()
	node := r.Intn(2)
	l := &b.way[node]
	switch k := r.Intn(100); {
	case k < 10:
		i, data := r.Intn(len(b.now)), sector.Mix(r.Uint64())
		if why := b.s.Volume().Write(i, data); why != api.OK {
			b.Fatalf("Write = %d", why)
		}
		b.now[i] = data
	case k < 12:
		b.seal()
	case k < 14:
		if f, why := b.s.Connect(); why == api.OK {
			b.post(api.Target, f)
		}
	case k < 20:
		b.post(api.Target, b.s.Tick()...)
	case k < 26:
		b.post(api.Source, b.k.Tick()...)
	case k < 27:
		b.to.Crash(r.Intn(2) == 0, r.Intn(2) == 0, r.Intn(2) == 0)
		b.to.Up()
		b.k = New(opened(b.T, b.to))
	case k < 28:
		b.s.Volume().Flush()
		b.from.Crash()
		b.from.Up()
		b.riseSource()
	case len(*l) == 0:
	case k < 36:
		*l = slices.Delete(*l, r.Intn(len(*l)), len(*l))
	case k < 40:
		*l = append(*l, (*l)[r.Intn(len(*l))])
	default:
		b.deliver(node, r.Intn(len(*l)))
	}
}

// settle seals and connects, and delivers all that there is, in order.
func (b *both) settle() {
	b.Helper()
	b.way = [2][]api.Frame{}
	b.seal()
	f, why := b.s.Connect()
	if why != api.OK {
		b.Fatalf("Connect = %d", why)
	}
	b.post(api.Target, f)
	for len(b.way[0])+len(b.way[1]) > 0 {
		for node := range b.way {
			if len(b.way[node]) > 0 {
				b.deliver(node, 0)
			}
		}
	}
	if s := b.s.State(); s.Phase != send.Done || b.k.State().Acked != s.Epoch || b.k.Volume().State().Epoch != s.Epoch {
		b.Fatalf("State = %+v, and %+v", s, b.k.State())
	}
}

// P23.2, P24.2, P24.3: both parts with one another: whatever befalls the frames, the target shows one image; when nothing does any more, it has the last one.
func TestBoth(t *testing.T) {
	r := rand.New(rand.NewSource(12))
	for _, g := range []api.Geom{{N: 1, F: 2, Undo: 2}, {N: 5, F: 2, Cow: 3, Undo: 16}, {N: 9, F: 3, Cow: 9, Undo: 23}, {N: 17, F: 4, Cow: 4, Undo: 42}} {
		b := joined(t, api.Config{Vol: 8, G: g, Last: 10000})
		for range 10 {
			for range 300 {
				before := b.k.Volume().State().Epoch
				b.random(r)
				b.look(before)
			}
			before := b.k.Volume().State().Epoch
			b.settle()
			b.look(before)
		}
	}
}
