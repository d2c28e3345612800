package origin

import (
	"math/rand"
	"slices"
	"testing"

	"pentimento/api"
	"pentimento/disk"
	"pentimento/sector"
)

// witness is what is known of a volume from without: what each sector may have, the images of the epochs, and the greatest epochs that were told.
type witness struct {
	may           [][]string
	images        map[uint64][]string
	sealed, acked uint64
}

// watched is a witness of a volume with these sectors.
func watched(sectors []string) *witness {
	w := &witness{images: map[uint64][]string{0: sectors}}
	for _, data := range sectors {
		w.may = append(w.may, []string{data})
	}
	return w
}

// copied is another witness that knows the same.
func (w *witness) copied() *witness {
	out := &witness{images: map[uint64][]string{}, sealed: w.sealed, acked: w.acked}
	for _, l := range w.may {
		out.may = append(out.may, slices.Clone(l))
	}
	for epoch, image := range w.images {
		out.images[epoch] = image
	}
	return out
}

// last is what was written last to each sector.
func (w *witness) last() []string {
	var out []string
	for _, l := range w.may {
		out = append(out, l[len(l)-1])
	}
	return out
}

// write is a Write. When it failed, the data is not there: the sector itself is written last.
func (w *witness) write(t *testing.T, v *Volume, i int, data string) bool {
	t.Helper()
	why := v.Write(i, data)
	if why != api.OK && why != api.ErrDown {
		t.Fatalf("Write(%d) = %d", i, why)
	}
	if why == api.OK {
		w.may[i] = append(w.may[i], data)
	}
	return why == api.OK
}

// flush is a Flush.
func (w *witness) flush(t *testing.T, v *Volume) bool {
	t.Helper()
	why := v.Flush()
	if why != api.OK && why != api.ErrDown {
		t.Fatalf("Flush = %d", why)
	}
	if why == api.OK {
		w.settle(w.last())
	}
	return why == api.OK
}

// settle lets each sector have just this.
func (w *witness) settle(sectors []string) {
	for i, data := range sectors {
		w.may[i] = []string{data}
	}
}

// seal is a Seal. When it failed, the epoch may be sealed or not, behind a crash.
func (w *witness) seal(t *testing.T, v *Volume) bool {
	t.Helper()
	was := v.State().Epoch
	w.images[was+1] = w.last()
	epoch, why := v.Seal()
	if why == api.ErrDown && epoch == 0 {
		return false
	}
	if why != api.OK || epoch != was+1 || epoch <= w.sealed {
		t.Fatalf("Seal = %d %d behind epoch %d", epoch, why, w.sealed)
	}
	w.sealed = epoch
	w.settle(w.last())
	if v.State().Open != epoch {
		t.Fatalf("State = %+v behind Seal", v.State())
	}
	return true
}

// ack is an Ack of an epoch that there is.
func (w *witness) ack(t *testing.T, v *Volume, epoch uint64) bool {
	t.Helper()
	why := v.Ack(epoch)
	if why != api.OK && why != api.ErrDown {
		t.Fatalf("Ack(%d) = %d", epoch, why)
	}
	if why == api.OK {
		w.acked = max(w.acked, epoch)
	}
	return why == api.OK
}

// look tells if a volume that is up reads what was not written last, or has not the tree and the sectors that its snapshot must have.
func (w *witness) look(t *testing.T, v *Volume) {
	t.Helper()
	g, s := v.Config().G, v.State()
	if s.Epoch < w.sealed || s.Acked < w.acked || s.Acked > s.Epoch || s.Open != 0 && s.Open != s.Epoch {
		t.Fatalf("State = %+v behind epoch %d, and Ack of %d", s, w.sealed, w.acked)
	}
	for i, want := range w.last() {
		if data, why := v.Read(i); data != want || why != api.OK {
			t.Fatalf("Read(%d) = %q %d, want %q", i, data, why, want)
		}
	}
	image := w.images[s.Epoch]
	if s.Root != root(g, image) {
		t.Fatalf("State = %+v has another root", s)
	}
	if s.Open == 0 {
		return
	}
	for i, want := range image {
		if data, why := v.Snap(i); data != want || why != api.OK {
			t.Fatalf("Snap(%d) = %q %d, want %q", i, data, why, want)
		}
	}
	if all := tree(t, v); !slices.Equal(all, digests(g, image)) {
		t.Fatalf("the tree of epoch %d is another one", s.Epoch)
	}
}

// rise lets a disk that went down come up, with these writes kept, and opens its volume: each sector has what it may have.
func (w *witness) rise(t *testing.T, d *disk.Disk, keep []bool) *Volume {
	t.Helper()
	d.Crash(keep...)
	d.Up()
	v, why := Open(d)
	if why != api.OK {
		t.Fatalf("Open = %d", why)
	}
	var now []string
	for i, l := range w.may {
		data, why := v.Read(i)
		if why != api.OK || !slices.Contains(l, data) {
			t.Fatalf("behind a crash Read(%d) = %q %d, want one of %q", i, data, why, l)
		}
		now = append(now, data)
	}
	// What a crash left is flushed.
	w.settle(now)
	w.look(t, v)
	w.sealed = v.State().Epoch
	return v
}

// act is one call of a row, which may fail as the disk goes down.
type act func(t *testing.T, w *witness, v *Volume) bool

// The acts of rows.
func writing(i int, n uint64) act {
	return func(t *testing.T, w *witness, v *Volume) bool { return w.write(t, v, i, sector.Mix(n)) }
}
func flushing(t *testing.T, w *witness, v *Volume) bool { return w.flush(t, v) }
func sealing(t *testing.T, w *witness, v *Volume) bool  { return w.seal(t, v) }

// acking is Ack of the volume's epoch, if it has one.
func acking(t *testing.T, w *witness, v *Volume) bool {
	return v.State().Epoch == 0 || w.ack(t, v, v.State().Epoch)
}

// perhaps is one of the acts, by chance.
func perhaps(r *rand.Rand, n int) act {
	switch k := r.Intn(12); {
	case k < 6:
		return writing(r.Intn(n), r.Uint64())
	case k < 7:
		return flushing
	case k < 10:
		return sealing
	}
	return acking
}

// masks are choices of what is kept of n writes: all that there are of a few, and some of more.
func masks(r *rand.Rand, n int) [][]bool {
	if n > 5 {
		return [][]bool{nil, slices.Repeat([]bool{true}, n), chance(r, n), chance(r, n), chance(r, n), chance(r, n), chance(r, n), chance(r, n)}
	}
	var out [][]bool
	for bits := range 1 << n {
		keep := make([]bool, n)
		for i := range keep {
			keep[i] = bits>>i&1 == 1
		}
		out = append(out, keep)
	}
	return out
}

// P18.6, P18.7, P18.8: the disk fails at each write and flush of a row, of which anything is kept; then the row goes on behind the crash.
func TestCrash(t *testing.T) {
	r := rand.New(rand.NewSource(6))
	c := api.Config{Vol: 1, G: api.Geom{N: 3, F: 2, Cow: 1, Undo: 1}, Last: 100}
	row := []act{
		writing(0, 1), writing(1, 2), sealing, writing(0, 3), writing(0, 4), flushing, writing(2, 5), writing(1, 6),
		sealing, writing(1, 7), acking, writing(1, 8), sealing, writing(2, 9), sealing, writing(0, 10), acking, acking, sealing, sealing,
	}
	d := made(t, size(c.G))
	if why := Format(d, c, contents(3, 1)...); why != api.OK {
		t.Fatalf("Format = %d", why)
	}
	for fuse := 0; ; fuse++ {
		x, w := d.Copy(), watched(contents(3, 1))
		v, _ := Open(x)
		x.Fuse(fuse)
		at := 0
		for at < len(row) && row[at](t, w, v) {
			w.look(t, v)
			at++
		}
		for _, keep := range masks(r, len(x.Waits())) {
			x, w := x.Copy(), w.copied()
			v := w.rise(t, x, keep)
			for _, a := range row[min(at, len(row)-4):] {
				if !a(t, w, v) {
					t.Fatal("the disk is down")
				}
				w.look(t, v)
			}
		}
		if at == len(row) {
			return
		}
	}
}

// P18.6, P18.7, P18.8: so it is for long rows by chance of volumes of all kinds, which fail again and again, also while they are opened.
func TestCrashes(t *testing.T) {
	r := rand.New(rand.NewSource(7))
	for _, c := range few() {
		c.Last = 1000
		for range 4 {
			sectors := contents(c.G.N, 1)
			d := made(t, size(c.G))
			if why := Format(d, c, sectors...); why != api.OK {
				t.Fatalf("Format = %d", why)
			}
			w := watched(sectors)
			v, _ := Open(d)
			for range 60 {
				d.Fuse(r.Intn(60))
				for range r.Intn(20) {
					if !perhaps(r, c.G.N)(t, w, v) {
						break
					}
					w.look(t, v)
				}
				if !d.Down() && r.Intn(3) > 0 {
					continue
				}
				keep := chance(r, 300)
				d.Crash(keep...)
				for range r.Intn(3) {
					d.Up()
					d.Fuse(r.Intn(2))
					if v, why := Open(d); v != nil || why != api.ErrDown {
						t.Fatalf("Open = %v %d", v, why)
					}
					d.Crash(r.Intn(2) == 0)
				}
				v = w.rise(t, d, nil)
			}
		}
	}
}
