package mirror

import (
	"math/rand"
	"slices"
	"strings"
	"testing"

	"pentimento/api"
	"pentimento/disk"
	"pentimento/sector"
)

// witness is what is known of a volume from without: the images of the epochs that it may have, and what it has at least.
type witness struct {
	images         map[uint64][]string
	epoch, session uint64
}

// look tells if a volume that is up shows another image than its epoch's, or an epoch that is less than it was.
func (w *witness) look(t *testing.T, v *Volume) {
	t.Helper()
	g, s := v.Config().G, v.State()
	image := w.images[s.Epoch]
	if s.Epoch < w.epoch || s.Session < w.session || image == nil {
		t.Fatalf("State = %+v behind epoch %d and session %d", s, w.epoch, w.session)
	}
	w.epoch, w.session = s.Epoch, s.Session
	for i, want := range image {
		if data, why := v.Read(i); data != want || why != api.OK {
			t.Fatalf("epoch %d: Read(%d) = %q %d, want %q", s.Epoch, i, data, why, want)
		}
	}
	if s.Root != root(g, image) || !slices.Equal(v.Tree().All(), digests(g, image)) {
		t.Fatalf("epoch %d has another tree", s.Epoch)
	}
}

// rise opens a disk of which something is kept; it fails some times more while it does so.
func (w *witness) rise(t *testing.T, r *rand.Rand, d *disk.Disk, keep []bool) *Volume {
	t.Helper()
	d.Crash(keep...)
	for range r.Intn(3) {
		d.Up()
		d.Fuse(r.Intn(8))
		if v, why := Open(d); why == api.OK {
			w.look(t, v)
		}
		d.Crash(chance(r, 40)...)
	}
	d.Up()
	v, why := Open(d)
	if v == nil || why != api.OK {
		t.Fatalf("Open = %v %d", v, why)
	}
	w.look(t, v)
	if s := v.State(); s.Try != 0 || s.Undo != 0 {
		t.Fatalf("State = %+v behind Open", s)
	}
	return v
}

// attempt is a try for an epoch, of which the image is to be this, by writes in some order with wrong ones among them. It reports whether the disk is still up.
func (w *witness) attempt(t *testing.T, r *rand.Rand, v *Volume, image []string, ends bool) bool {
	t.Helper()
	g, epoch := v.Config().G, v.State().Epoch+1+uint64(r.Intn(2))
	if why := v.Begin(epoch, root(g, image)); why != api.OK {
		t.Fatalf("Begin = %d", why)
	}
	now := w.images[v.State().Epoch]
	apply := func(i int, data string) bool {
		why := v.Apply(i, data)
		if why == api.OK {
			w.look(t, v)
		} else if why != api.ErrDown {
			t.Fatalf("Apply(%d) = %d", i, why)
		}
		return why == api.OK
	}
	for _, i := range r.Perm(len(image)) {
		if image[i] == now[i] {
			continue
		}
		if r.Intn(3) == 0 && !apply(i, sector.Mix(r.Uint64())) {
			return false
		}
		if !apply(i, image[i]) {
			return false
		}
	}
	if !ends {
		why := v.Back()
		if why == api.OK {
			w.look(t, v)
		}
		return why == api.OK
	}
	w.images[epoch] = image
	why := v.Finish()
	if why != api.OK && why != api.ErrDown {
		t.Fatalf("Finish = %d", why)
	}
	if why == api.OK {
		if v.State().Epoch != epoch {
			t.Fatalf("State = %+v, want epoch %d", v.State(), epoch)
		}
		w.look(t, v)
	}
	return why == api.OK
}

// another is an image some of whose sectors are others.
func another(r *rand.Rand, image []string, n int) []string {
	out := slices.Clone(image)
	for range n {
		out[r.Intn(len(out))] = sector.Mix(r.Uint64())
	}
	return out
}

// masks are choices of what is kept of n writes: all that there are of a few, and some of more.
func masks(r *rand.Rand, n int) [][]bool {
	if n > 5 {
		return [][]bool{nil, slices.Repeat([]bool{true}, n), chance(r, n), chance(r, n), chance(r, n), chance(r, n)}
	}
	var out [][]bool
	for bits := range 1 << n {
		keep := make([]bool, n)
		for i := range keep {
			keep[i] = bits>>i&1 == 1
		}
		out = append(out, keep)
	}
	return out
}

// P19.7, P19.8: the disk fails at each write and flush of some tries, of which anything is kept; then another try gets there.
func TestCrash(t *testing.T) {
	c := api.Config{Vol: 1, G: api.Geom{N: 3, F: 2, Undo: 9}, Last: 1000}
	d := made(t, size(c.G))
	if why := Format(d, c, contents(3, 1)...); why != api.OK {
		t.Fatalf("Format = %d", why)
	}
	for fuse := 0; ; fuse++ {
		up := false
		// The same row each time, that goes one step farther.
		run := func() (*witness, *disk.Disk) {
			r := rand.New(rand.NewSource(5))
			x := d.Copy()
			w := &witness{images: map[uint64][]string{0: contents(3, 1)}}
			v, _ := Open(x)
			x.Fuse(fuse)
			up = true
			for _, ends := range []bool{true, false, true, true} {
				if up = w.attempt(t, r, v, another(r, w.images[v.State().Epoch], 2), ends); !up {
					break
				}
			}
			return w, x
		}
		r := rand.New(rand.NewSource(int64(fuse)))
		_, x := run()
		for _, keep := range masks(r, len(x.Waits())) {
			w, x := run()
			v := w.rise(t, r, x, keep)
			if !w.attempt(t, r, v, another(r, w.images[v.State().Epoch], 3), true) {
				t.Fatal("the disk is down")
			}
		}
		if up {
			if fuse < 60 {
				t.Errorf("%d writes and flushes", fuse)
			}
			return
		}
	}
}

// P19.7, P19.8: so it is for long rows by chance of volumes of all kinds, which fail again and again, also while they are opened.
func TestCrashes(t *testing.T) {
	r := rand.New(rand.NewSource(7))
	for _, c := range few()[1:] {
		c.Last = 1000
		for range 4 {
			d := made(t, size(c.G))
			if why := Format(d, c, contents(c.G.N, 1)...); why != api.OK {
				t.Fatalf("Format = %d", why)
			}
			w := &witness{images: map[uint64][]string{0: contents(c.G.N, 1)}}
			v, _ := Open(d)
			for range 60 {
				d.Fuse(r.Intn(80))
				for range r.Intn(4) {
					if !w.attempt(t, r, v, another(r, w.images[v.State().Epoch], r.Intn(4)), r.Intn(3) > 0) {
						break
					}
					if v.Session(w.session+uint64(r.Intn(2))) != api.OK {
						break
					}
				}
				if d.Down() || r.Intn(3) == 0 {
					v = w.rise(t, r, d, chance(r, 300))
				}
			}
			if w.epoch < 5 {
				t.Errorf("%v: epoch %d", c, w.epoch)
			}
		}
	}
}

// P19.8: no call makes the epoch less: not one for an epoch that is not greater, and not the undoing of a try.
func TestEpoch(t *testing.T) {
	v, d, m := started(t, usual())
	reaches(t, v, d, m, 50, map[int]string{0: sector.Fill(1)})
	for _, epoch := range []uint64{1, 49, 50} {
		did(t, "Begin", v.Begin(epoch, root(m.c.G, m.image)), api.ErrEpoch, v, d, m)
	}
	begins(t, v, d, m, 51, strings.Repeat("r", 32))
	applies(t, v, d, m, 0, sector.Fill(2))
	goesBack(t, v, d, m)
	v = opened(t, d, m)
	if s := v.State(); s.Epoch != 50 {
		t.Errorf("State = %+v", s)
	}
}
