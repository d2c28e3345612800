package pair

import (
	"math/rand"
	"slices"
	"testing"

	"pentimento/api"
	"pentimento/frame"
	"pentimento/geom"
	"pentimento/mirror"
	"pentimento/past"
	"pentimento/sector"
)

// witness is a pair, and what was written, sealed and acknowledged.
type witness struct {
	*testing.T
	p *Pair
	// What the source may have, and whether it is down and not yet found again.
	was  *past.Past
	lost bool
	// The images of the epochs; the greatest epoch, and the greatest one that the source was told the target has.
	images map[uint64][]string
	sealed uint64
	acked  uint64
	had    uint64
}

// watched is a pair of a volume with sectors of their own bytes, and its witness.
func watched(t *testing.T, c api.Config) *witness {
	t.Helper()
	source, target := contents(c.G.N, 1), contents(c.G.N, 2)
	p, why := New(c, source, target)
	if why != api.OK {
		t.Fatalf("New = %d", why)
	}
	return &witness{T: t, p: p, was: past.New(source...), images: map[uint64][]string{0: target}}
}

// now is what the sectors of the source had last.
func (w *witness) now() []string {
	w.Helper()
	var out []string
	for i := range w.p.Config().G.N {
		s, why := w.was.Last(i)
		if why != api.OK {
			w.Fatalf("Last = %d", why)
		}
		out = append(out, s)
	}
	return out
}

// do performs a step, and tells if the pair is not as it has to be.
func (w *witness) do(s api.Step) api.Answer {
	w.Helper()
	up, now := w.p.Up(0), w.now()
	told := w.tells(s)
	a := w.p.Do(s)
	down := up && !w.p.Up(0)
	switch {
	case s.Kind == api.StWrite && (a.Why == api.OK || down):
		w.was.Write(s.At, s.Data)
	case s.Kind == api.StFlush && a.Why == api.OK:
		w.was.Flush()
	case s.Kind == api.StSeal && (a.Why == api.OK || down):
		// What is sealed in a step in which the node goes down may have been sealed, and is never sealed otherwise then.
		if a.Why == api.OK {
			w.was.Flush()
			w.sealed = uint64(a.N)
			w.images[w.sealed] = now
		} else {
			w.images[w.sealed+1] = now
		}
	case told > 0 && a.Why == api.OK:
		w.acked = max(w.acked, told)
	}
	w.lost = w.lost || down
	w.look()
	return a
}

// tells is the epoch of the acknowledgement that comes in a step, 0 for none.
func (w *witness) tells(s api.Step) uint64 {
	if s.Kind != api.StDeliver {
		return 0
	}
	q, _ := w.p.Net().At(s.N)
	f, why := frame.Get([]byte(q.B))
	if why != api.OK || f.Kind != api.FrAck || q.To != api.Source {
		return 0
	}
	return f.Epoch
}

// look tells if the source or the target is not as it has to be.
func (w *witness) look() {
	w.Helper()
	if w.p.Up(0) {
		w.source()
	}
	w.target()
}

// source tells if the source does not read what was written last, or, behind a crash, what may be.
func (w *witness) source() {
	w.Helper()
	var found []string
	for i := range w.p.Config().G.N {
		a := w.p.Do(read(i))
		if a.Why != api.OK {
			w.Fatalf("read %d: %d", i, a.Why)
		}
		found = append(found, a.Data)
	}
	if w.lost {
		if why := w.was.Crash(found...); why != api.OK {
			w.Fatalf("behind a crash the source reads %q: %d", found, why)
		}
		w.lost = false
	}
	if !slices.Equal(found, w.now()) {
		w.Fatalf("the source reads %q, want %q", found, w.now())
	}
	s := w.p.Source()
	if s.Epoch != w.sealed && s.Epoch != w.sealed+1 || s.Acked < w.acked || s.Acked > w.had {
		w.Fatalf("Source = %+v, sealed %d, acked %d", s, w.sealed, w.acked)
	}
	w.sealed = s.Epoch
}

// target tells if the target does not show one image, or what it would show, if it is down.
func (w *witness) target() {
	w.Helper()
	s, show := w.p.Target(), func(i int) (string, api.Errno) {
		a := w.p.Do(view(i))
		return a.Data, a.Why
	}
	if !w.p.Up(1) {
		d := w.p.Disk(1).Copy()
		d.Up()
		v, why := mirror.Open(d)
		if why != api.OK {
			w.Fatalf("the target can't come up: %d", why)
		}
		s, show = v.State(), v.Read
	}
	if s.Epoch < w.had || s.Epoch > w.sealed || s.Epoch < w.acked {
		w.Fatalf("the target has epoch %d, had %d, sealed %d, acknowledged %d", s.Epoch, w.had, w.sealed, w.acked)
	}
	w.had = s.Epoch
	for i, want := range w.images[s.Epoch] {
		if data, why := show(i); data != want || why != api.OK {
			w.Fatalf("epoch %d: sector %d is %q %d, want %q", s.Epoch, i, data, why, want)
		}
	}
}

// rises boots what is down.
func (w *witness) rises() {
	w.Helper()
	for node := range 2 {
		if !w.p.Up(node) {
			w.goes(boot(node))
		}
	}
}

// goes performs steps that have no error.
func (w *witness) goes(l ...api.Step) {
	w.Helper()
	for _, s := range l {
		if a := w.do(s); a.Why != api.OK {
			w.Fatalf("Do(%+v) = %+v", s, a)
		}
	}
}

// settle boots, seals and connects, and delivers as long as there are packets: the target has all then.
func (w *witness) settle() {
	w.Helper()
	w.rises()
	w.goes(drop(), seal(), connect())
	for w.p.Net().Len() > 0 {
		w.goes(deliver(0))
	}
	if s, k := w.p.Source(), w.p.Target(); k.Epoch != s.Epoch || s.Acked != s.Epoch || w.acked != s.Epoch || s.Open != 0 {
		w.Fatalf("Source = %+v, Target = %+v", s, k)
	}
	for i, want := range w.now() {
		if a := w.p.Do(view(i)); a.Data != want {
			w.Fatalf("sector %d is %q, want %q", i, a.Data, want)
		}
	}
}

// some are volumes with room to undo everything, for witnesses.
func some() []api.Config {
	var out []api.Config
	for _, g := range []api.Geom{{N: 1, F: 2, Undo: 1}, {N: 2, F: 2, Cow: 1, Undo: 1}, {N: 4, F: 2, Cow: 2, Undo: 1}, {N: 5, F: 3, Cow: 5, Undo: 1}, {N: 17, F: 4, Cow: 6, Undo: 1}} {
		g.Undo = g.N + geom.Nodes(g)
		out = append(out, api.Config{Vol: 7, G: g, Last: 100000})
	}
	return out
}

// P25.4, P25.5, P25.6: rows by chance, with crashes, losses and all else: one image, epochs that never decrease, and a source that is a disk; whenever nothing goes wrong any more, the target has all.
func TestOneImage(t *testing.T) {
	r := rand.New(rand.NewSource(254))
	for _, c := range some() {
		for range 12 {
			w := watched(t, c)
			for range 6 {
				for range 150 {
					w.do(random(r, w.p))
				}
				w.settle()
			}
		}
	}
}

// P25.4, P25.5, P25.6: rows by chance where not everything can be undone.
func TestOneImageTight(t *testing.T) {
	r := rand.New(rand.NewSource(255))
	for _, undo := range []int{1, 4, 7, 10} {
		w := watched(t, api.Config{Vol: 7, G: api.Geom{N: 4, F: 2, Cow: 1, Undo: undo}, Last: 100000})
		for range 2500 {
			w.do(random(r, w.p))
		}
	}
}

// story is a session in which sectors that were written all differ, and another one behind it.
func story(n int) []api.Step {
	l := []api.Step{write(0, sector.Fill(1)), flush(), seal(), write(0, sector.Fill(2)), write(n-1, sector.Fill(3)), connect()}
	for range 40 {
		l = append(l, deliver(0))
	}
	l = append(l, write(0, sector.Fill(4)), seal(), connect())
	for range 20 {
		l = append(l, deliver(0))
	}
	return l
}

// P25.4, P25.5, P25.6: a node goes down at each write and each flush of a story, with several parts kept, at once again when it comes up, and then everything is as it has to be.
func TestEachStop(t *testing.T) {
	c := api.Config{Vol: 7, G: api.Geom{N: 4, F: 2, Cow: 2, Undo: 11}, Last: 100}
	keeps := [][]bool{nil, {true}, {false, true}, {true, true, true, true, true, true, true, true}, {false, true, false, true, false, true}}
	r := rand.New(rand.NewSource(256))
	for at, s := range story(c.G.N) {
		for stop, falls := 1, true; falls; stop++ {
			falls = false
			for _, keep := range keeps {
				w := watched(t, c)
				for _, s := range story(c.G.N)[:at] {
					w.do(s)
				}
				w.do(stopped(s, stop, keep...))
				if w.p.Up(0) && w.p.Up(1) {
					break
				}
				falls = true
				for node := range 2 {
					if !w.p.Up(node) {
						w.do(stopped(boot(node), 1+r.Intn(6), r.Intn(2) == 0, r.Intn(2) == 0))
					}
				}
				w.rises()
				for range 5 {
					w.do(deliver(0))
				}
				w.settle()
			}
		}
	}
}

// P25.5: an acknowledgement that is late, or there twice, does no harm; frames of earlier sessions change nothing.
func TestLate(t *testing.T) {
	w := watched(t, some()[2])
	w.goes(seal(), connect())
	for w.p.Target().Epoch == 0 {
		w.goes(deliver(0))
	}
	// The Ack of epoch 1 stays on its way, while epoch 2 is sealed and offered.
	w.goes(twice(0), write(0, sector.Fill(9)), seal(), connect())
	for range 2 {
		if a := w.do(deliver(0)); a.Why != api.ErrSession {
			t.Errorf("deliver = %+v", a)
		}
	}
	if s := w.p.Source(); s.Acked != 0 || s.Open != 2 {
		t.Errorf("Source = %+v", s)
	}
	w.goes(twice(0))
	for range 40 {
		w.do(deliver(0))
	}
	if s := w.p.Source(); s.Acked != 2 || w.p.Target().Epoch != 2 {
		t.Errorf("Source = %+v, Target = %+v", s, w.p.Target())
	}
}

// The document's examples that are of a pair.
func TestDocument(t *testing.T) {
	five := sector.Fill(5)
	c := api.Config{Vol: 1, G: api.Geom{N: 4, F: 2, Cow: 2, Undo: 11}, Last: 3}
	h := with(t, c, nil, nil)
	h.ok(write(0, five))
	h.answers(read(0), api.Answer{Data: five})
	h.ok(flush())
	h.answers(read(0), api.Answer{Data: five})

	h = with(t, c, nil, nil)
	h.ok(write(0, five), crash(0, false), boot(0))
	h.answers(read(0), api.Answer{Data: sector.Zero()})
	h.ok(write(0, five), crash(0, true, true, true, true), boot(0))
	h.answers(read(0), api.Answer{Data: five})

	// What the epoch has is what was there at the seal.
	h.ok(seal(), write(0, sector.Fill(6)), connect())
	h.settle()
	h.shows([]string{five, sector.Zero()})
	h.ok(seal(), write(1, five), write(2, five), write(3, five))
	h.keeps(connect(), api.ErrSnap)
	h.answers(scrubs(0), api.Answer{})
	h.answers(scrubs(1), api.Answer{})

	// The target goes down while sectors arrive.
	h.ok(seal(), connect())
	for h.p.Target().Undo == 0 {
		h.ok(deliver(0))
	}
	h.ok(crash(1, true, true, true, true), boot(1))
	h.shows([]string{five, sector.Zero(), sector.Zero(), sector.Zero()})
	h.keeps(seal(), api.ErrEpoch)
}
