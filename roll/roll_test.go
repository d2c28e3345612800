package roll

import (
	"math"
	"math/rand"
	"slices"
	"strings"
	"testing"

	"pentimento/api"
	"pentimento/disk"
	"pentimento/geom"
	"pentimento/sector"
	"pentimento/undo"
)

// wrong are geometries that are not valid.
var wrong = []api.Geom{
	{}, {N: 0, F: 2, Undo: 1}, {N: -1, F: 2, Undo: 1}, {N: 129, F: 2, Undo: 1}, {N: math.MaxInt, F: 4, Undo: 1}, {N: 2, F: 1, Undo: 1}, {N: 2, F: 5, Undo: 1},
	{N: 2, F: 2, Cow: -1, Undo: 1}, {N: 2, F: 2, Cow: 65, Undo: 1}, {N: 2, F: 2, Undo: 0}, {N: 2, F: 2, Undo: 321}, {N: 2, F: 2, Undo: -1},
}

// few are some valid geometries: the least and the greatest, and some between.
func few() []api.Geom {
	return []api.Geom{
		{N: 1, F: 2, Undo: 1}, {N: 1, F: 4, Cow: 64, Undo: 3}, {N: 3, F: 2, Cow: 2, Undo: 5}, {N: 5, F: 2, Cow: 3, Undo: 16},
		{N: 9, F: 3, Cow: 7, Undo: 8}, {N: 128, F: 4, Cow: 64, Undo: 2}, {N: 128, F: 2, Cow: 64, Undo: 320},
	}
}

// places are how many locations can be undone; the first one is 6.
func places(g api.Geom) int { return g.N + geom.Nodes(g) }

// size is how many sectors the target's disk has.
func size(g api.Geom) int { return geom.Size(g, api.Target) }

// head is the location of the head of entry 0.
func head(g api.Geom) int { return 6 + places(g) }

// content is a sector of which no other location has the like.
func content(at int) string {
	return strings.Repeat(string([]byte{byte(at >> 8), byte(at), 0xff, byte(at) ^ 0x5a}), 16)
}

// made returns a disk with n sectors.
func made(t *testing.T, n int) *disk.Disk {
	t.Helper()
	d, why := disk.New(n)
	if why != api.OK {
		t.Fatalf("disk.New(%d) = %d", n, why)
	}
	return d
}

// put writes a sector.
func put(t *testing.T, d *disk.Disk, at int, data string) {
	t.Helper()
	if why := d.Write(at, data); why != api.OK {
		t.Fatalf("Write(%d) = %d", at, why)
	}
}

// fresh returns a disk with n sectors, each with bytes of its own. All is flushed.
func fresh(t *testing.T, n int) *disk.Disk {
	t.Helper()
	d := made(t, n)
	for at := range n {
		put(t, d, at, content(at))
	}
	d.Flush()
	return d
}

// fallen is a disk that is down.
func fallen(t *testing.T, d *disk.Disk) *disk.Disk {
	t.Helper()
	d = d.Copy()
	d.Crash()
	return d
}

// kept tells if not all flushed sectors of two disks are alike.
func kept(t *testing.T, what string, d, want *disk.Disk) {
	t.Helper()
	for at := range want.Len() {
		a, _ := d.Kept(at)
		b, _ := want.Kept(at)
		if a != b {
			t.Fatalf("%s: sector %d is %q, want %q", what, at, a, b)
		}
	}
}

// same tells if a disk is not as another one, with its pending writes.
func same(t *testing.T, what string, d, want *disk.Disk) {
	t.Helper()
	if d.Done() != want.Done() || d.Down() != want.Down() || !slices.Equal(d.Waits(), want.Waits()) {
		t.Fatalf("%s: done %d, want %d; waits %v, want %v", what, d.Done(), want.Done(), d.Waits(), want.Waits())
	}
	kept(t, what, d, want)
}

// entry is one of a place, with these bytes.
func entry(place int, c byte) api.Entry {
	return api.Entry{Tag: 5, Epoch: 6, Place: place, Old: sector.Fill(c)}
}

// finds tells if Find does not return this.
func finds(t *testing.T, l []api.Entry, place int, want string, is bool) {
	t.Helper()
	was := slices.Clone(l)
	if s, ok := Find(l, place); s != want || ok != is {
		t.Errorf("Find(%v, %d) = %q %t, want %q %t", l, place, s, ok, want, is)
	}
	if !slices.Equal(l, was) {
		t.Error("Find has changed its list")
	}
}

// views tells if View does not return this, or changes the disk.
func views(t *testing.T, what string, d *disk.Disk, l []api.Entry, place int, want string, fault api.Errno) {
	t.Helper()
	was, list := d.Copy(), slices.Clone(l)
	if s, why := View(d, l, place); s != want || why != fault {
		t.Errorf("%s: View(%v, %d) = %q %d, want %q %d", what, l, place, s, why, want, fault)
	}
	if !slices.Equal(l, list) {
		t.Errorf("%s: View has changed its list", what)
	}
	if d != nil {
		same(t, what, d, was)
	}
}

// backs tells if Back does not return this, or changes its list.
func backs(t *testing.T, what string, d *disk.Disk, g api.Geom, want api.Errno, l ...api.Entry) {
	t.Helper()
	list := slices.Clone(l)
	if why := Back(d, g, l); why != want {
		t.Errorf("%s, %v: Back(%v) = %d, want %d", what, g, l, why, want)
	}
	if !slices.Equal(l, list) {
		t.Errorf("%s: Back has changed its list", what)
	}
}

// P16.1: Find returns the first entry of the place, whatever its tag and epoch are, and whatever it has.
func TestFind(t *testing.T) {
	l := []api.Entry{entry(7, 1), entry(9, 2), entry(7, 3), {Tag: 1, Epoch: 9, Place: 9, Old: sector.Fill(4)}, {Place: 0, Old: "x"}, {Place: -1}, entry(math.MaxInt, 5), entry(math.MinInt, 6), entry(8, 7)}
	finds(t, l, 7, sector.Fill(1), true)
	finds(t, l[1:], 7, sector.Fill(3), true)
	finds(t, l[3:], 7, "", false)
	finds(t, l, 9, sector.Fill(2), true)
	finds(t, l[2:], 9, sector.Fill(4), true)
	finds(t, l, 0, "x", true)
	finds(t, l, -1, "", true)
	finds(t, l, math.MaxInt, sector.Fill(5), true)
	finds(t, l, math.MinInt, sector.Fill(6), true)
	finds(t, l, 8, sector.Fill(7), true)
	for _, place := range []int{1, 6, 10, -2, 1<<32 + 7, math.MaxInt - 1} {
		finds(t, l, place, "", false)
	}
	for _, place := range []int{0, 7, -1} {
		finds(t, nil, place, "", false)
		finds(t, []api.Entry{}, place, "", false)
	}
}

// P16.1: View returns what the first entry of the location has, whatever was written there, and what is there if there is none, pending or flushed.
func TestView(t *testing.T) {
	d := fresh(t, 12)
	l := []api.Entry{entry(7, 1), entry(9, 2), entry(7, 3), {Place: 11, Old: "x"}, {Place: 0}}
	for range 2 {
		for at := range 12 {
			now, _ := d.Read(at)
			want, is := now, false
			if want, is = Find(l, at); !is {
				want = now
			}
			views(t, "view", d, l, at, want, api.OK)
			views(t, "without entries", d, nil, at, now, api.OK)
			put(t, d, at, sector.Fill(byte(0x80+at)))
			views(t, "pending", d, []api.Entry{entry(at-1, 8), entry(at+1, 9)}, at, sector.Fill(byte(0x80+at)), api.OK)
		}
	}
	views(t, "first", d, l, 7, sector.Fill(1), api.OK)
	views(t, "none", d, l, 8, sector.Fill(0x88), api.OK)
}

// P16.1: the disk's errors come first, be there an entry or not.
func TestViewErrors(t *testing.T) {
	d := fresh(t, 12)
	for _, at := range []int{-1, 12, 13, 1 << 32, math.MaxInt, math.MinInt} {
		for _, l := range [][]api.Entry{nil, {entry(at, 1)}, {entry(3, 1)}} {
			views(t, "no such sector", d, l, at, "", api.ErrRange)
			views(t, "nil", nil, l, at, "", api.ErrNil)
			views(t, "down", fallen(t, d), l, at, "", api.ErrDown)
		}
	}
	for at := range 12 {
		for _, l := range [][]api.Entry{nil, {entry(at, 1)}, {entry(at+1, 1)}} {
			views(t, "nil", nil, l, at, "", api.ErrNil)
			views(t, "down", fallen(t, d), l, at, "", api.ErrDown)
		}
	}
}

// P16.1: View writes nothing, so that no fuse burns.
func TestViewFuse(t *testing.T) {
	d := fresh(t, 12)
	d.Fuse(0)
	views(t, "fuse", d, []api.Entry{entry(7, 1)}, 7, sector.Fill(1), api.OK)
	views(t, "fuse", d, []api.Entry{entry(7, 1)}, 8, content(8), api.OK)
}

// some are n entries of places by chance, some of them perhaps more than once.
func some(r *rand.Rand, g api.Geom, n int) []api.Entry {
	var out []api.Entry
	for range n {
		out = append(out, api.Entry{Tag: 5, Epoch: 6, Place: 6 + r.Intn(places(g)), Old: sector.Mix(r.Uint64())})
	}
	return out
}

// P16.2: Back writes what the entries have, so that the first entry of a location is what remains; then the head of entry 0 has bytes 0. All is flushed, nothing else is changed.
func TestBack(t *testing.T) {
	r := rand.New(rand.NewSource(16))
	for _, g := range few() {
		for _, n := range []int{0, 1, 2, 5, g.Undo, 40} {
			d := fresh(t, size(g)+2)
			l := some(r, g, n)
			put(t, d, 0, sector.Fill(1))
			done, expect := d.Done(), d.Copy()
			for i := len(l) - 1; i >= 0; i-- {
				put(t, expect, l[i].Place, l[i].Old)
			}
			put(t, expect, head(g), sector.Zero())
			expect.Flush()
			backs(t, "back", d, g, api.OK, l...)
			if d.Done() != done+len(l)+3 || len(d.Waits()) != 0 {
				t.Errorf("%v: done %d, waits %v", g, d.Done()-done, d.Waits())
			}
			kept(t, "back", d, expect)
			for _, e := range l {
				want, _ := Find(l, e.Place)
				if s, _ := d.Kept(e.Place); s != want {
					t.Errorf("%v: sector %d is %q, want %q", g, e.Place, s, want)
				}
			}
		}
	}
}

// P16.2: the entries are written to their places as they stand, also where nothing can be undone.
func TestBackPlaces(t *testing.T) {
	g := api.Geom{N: 3, F: 2, Cow: 2, Undo: 5}
	d := fresh(t, size(g)+2)
	expect := d.Copy()
	l := []api.Entry{entry(0, 1), entry(5, 2), entry(head(g), 3), entry(head(g)+1, 4), entry(size(g)+1, 5)}
	for _, e := range l {
		put(t, expect, e.Place, e.Old)
	}
	put(t, expect, head(g), sector.Zero())
	expect.Flush()
	backs(t, "any place", d, g, api.OK, l...)
	kept(t, "any place", d, expect)
}

// P16.2: a geometry that is not valid is told ahead of all else, and nothing is written.
func TestBackGeometry(t *testing.T) {
	for _, g := range wrong {
		d := fresh(t, 30)
		was := d.Copy()
		for _, l := range [][]api.Entry{nil, {entry(7, 1)}, {entry(-1, 1)}, {{Place: 7, Old: "x"}}} {
			backs(t, "no geometry", d, g, api.ErrGeom, l...)
			backs(t, "no geometry", nil, g, api.ErrGeom, l...)
			backs(t, "no geometry", fallen(t, d), g, api.ErrGeom, l...)
		}
		same(t, "no geometry", d, was)
	}
}

// P16.2: a disk that is not there, or is down, with entries and without.
func TestBackDisk(t *testing.T) {
	for _, g := range few() {
		for _, l := range [][]api.Entry{nil, {entry(7, 1)}, {entry(-1, 1)}, {{Place: 7, Old: "x"}}} {
			down := fallen(t, fresh(t, size(g)))
			was := down.Copy()
			backs(t, "nil", nil, g, api.ErrNil, l...)
			backs(t, "down", down, g, api.ErrDown, l...)
			same(t, "down", down, was)
		}
	}
}

// P16.2: an entry whose place is not on the disk, or whose bytes are no sector: those behind it are written by then, and those ahead of it are not.
func TestBackEntries(t *testing.T) {
	g := api.Geom{N: 3, F: 2, Cow: 2, Undo: 5}
	cases := []struct {
		e    api.Entry
		want api.Errno
	}{
		{entry(-1, 9), api.ErrRange}, {entry(size(g), 9), api.ErrRange}, {entry(math.MinInt, 9), api.ErrRange}, {entry(math.MaxInt, 9), api.ErrRange},
		{api.Entry{Place: 8}, api.ErrLength}, {api.Entry{Place: 8, Old: sector.Zero() + "x"}, api.ErrLength}, {api.Entry{Place: -1, Old: "x"}, api.ErrRange},
	}
	for _, c := range cases {
		d := fresh(t, size(g))
		was := d.Copy()
		backs(t, "no entry", d, g, c.want, entry(6, 1), entry(7, 2), c.e, entry(9, 3), entry(10, 4))
		want := []api.Put{{At: 10, Data: sector.Fill(4)}, {At: 9, Data: sector.Fill(3)}}
		if !slices.Equal(d.Waits(), want) {
			t.Errorf("%v: waits %v, want %v", c.e, d.Waits(), want)
		}
		kept(t, "no entry", d, was)
	}
}

// P16.2: a disk without room for entry 0: all is written and flushed by then, and Clear's error is the result.
func TestBackSmall(t *testing.T) {
	g := api.Geom{N: 3, F: 2, Cow: 2, Undo: 5}
	d := fresh(t, head(g))
	backs(t, "small", d, g, api.ErrRange, entry(7, 1))
	if s, _ := d.Kept(7); s != sector.Fill(1) || len(d.Waits()) != 0 {
		t.Errorf("sector 7 is %q, waits %v", s, d.Waits())
	}
	backs(t, "small", d, g, api.ErrRange)
	backs(t, "just enough", fresh(t, head(g)+1), g, api.OK, entry(7, 1))
}

// P16.2: from the last entry to the first one, then the flush, then Clear: the error of each write and flush. What was written ahead of it stays written.
func TestBackFuse(t *testing.T) {
	g := api.Geom{N: 5, F: 2, Cow: 3, Undo: 16}
	l := []api.Entry{entry(7, 1), entry(9, 2), entry(7, 3), entry(12, 4)}
	order := []api.Put{{At: 12, Data: sector.Fill(4)}, {At: 7, Data: sector.Fill(3)}, {At: 9, Data: sector.Fill(2)}, {At: 7, Data: sector.Fill(1)}}
	for fuse := range 7 {
		d := fresh(t, size(g))
		expect := d.Copy()
		d.Fuse(fuse)
		backs(t, "fuse", d, g, api.ErrDown, l...)
		want := order[:min(fuse, 4)]
		if fuse > 4 {
			for _, p := range order {
				put(t, expect, p.At, p.Data)
			}
			want = []api.Put{{At: head(g), Data: sector.Zero()}}[:fuse-5]
		}
		expect.Flush()
		if !d.Down() || !slices.Equal(d.Waits(), want) {
			t.Errorf("fuse %d: waits %v, want %v", fuse, d.Waits(), want)
		}
		kept(t, "fuse", d, expect)
	}
	d := fresh(t, size(g))
	d.Fuse(7)
	backs(t, "fuse", d, g, api.OK, l...)
}

// began returns a disk on which a try for epoch 6 has n entries, each appended ahead of a write to its location, which may be flushed or not; these entries; and the disk as it was before.
func began(t *testing.T, r *rand.Rand, g api.Geom, n int) (*disk.Disk, []api.Entry, *disk.Disk) {
	t.Helper()
	d := fresh(t, size(g))
	before := d.Copy()
	var l []api.Entry
	for k := range n {
		place := 6 + r.Intn(places(g))
		e, why := undo.Append(d, g, k, 5, 6, place)
		if why != api.OK {
			t.Fatalf("Append(%d, %d) = %d", k, place, why)
		}
		l = append(l, e)
		for range 1 + r.Intn(2) {
			put(t, d, l[r.Intn(len(l))].Place, sector.Mix(r.Uint64()))
		}
		put(t, d, place, sector.Mix(r.Uint64()))
		if r.Intn(3) == 0 {
			d.Flush()
		}
	}
	return d, l, before
}

// restored tells if not each location that can be undone has what it had before, flushed, or if there are entries still.
func restored(t *testing.T, d *disk.Disk, g api.Geom, before *disk.Disk) {
	t.Helper()
	if len(d.Waits()) != 0 {
		t.Fatalf("waits %v", d.Waits())
	}
	for place := 6; place < head(g); place++ {
		s, _ := d.Kept(place)
		if was, _ := before.Kept(place); s != was {
			t.Fatalf("%v: sector %d is %q, want %q", g, place, s, was)
		}
	}
	if l, why := undo.Scan(d, g, 0); len(l) != 0 || why != api.OK {
		t.Fatalf("%v: Scan = %v %d", g, l, why)
	}
}

// P16.1, P16.3: with the entries all locations are shown as they were before; so are they behind Back.
func TestUndone(t *testing.T) {
	r := rand.New(rand.NewSource(17))
	for _, g := range few() {
		for range 10 {
			d, l, before := began(t, r, g, r.Intn(g.Undo+1))
			for at := 6; at < head(g); at++ {
				views(t, "within a try", d, l, at, content(at), api.OK)
			}
			backs(t, "a try", d, g, api.OK, l...)
			restored(t, d, g, before)
		}
	}
}

// masks are all choices of what is kept of n writes.
func masks(n int) [][]bool {
	var out [][]bool
	for bits := range 1 << n {
		keep := make([]bool, n)
		for i := range keep {
			keep[i] = bits>>i&1 == 1
		}
		out = append(out, keep)
	}
	return out
}

// P16.3: the disk fails at each write or flush of Back, and then of the Back that follows; of each anything is kept. The Back behind that mends it.
func TestBackCrash(t *testing.T) {
	r := rand.New(rand.NewSource(18))
	g := api.Geom{N: 3, F: 2, Cow: 2, Undo: 5}
	for n := range 4 {
		laid, _, before := began(t, r, g, n)
		laid.Flush()
		for fuse := range n + 4 {
			for _, keep := range masks(n + 1) {
				for again := range n + 4 {
					d := laid.Copy()
					broken(t, d, g, fuse, keep...)
					broken(t, d, g, again, r.Intn(2) == 0, r.Intn(2) == 0, r.Intn(2) == 0)
					l, _ := undo.Scan(d, g, 5)
					backs(t, "behind two crashes", d, g, api.OK, l...)
					restored(t, d, g, before)
				}
			}
		}
	}
}

// broken calls Back for what Scan returns, until the fuse ends; then the disk goes down with those writes kept, and comes up.
func broken(t *testing.T, d *disk.Disk, g api.Geom, fuse int, keep ...bool) {
	t.Helper()
	l, why := undo.Scan(d, g, 5)
	if why != api.OK {
		t.Fatalf("Scan = %d", why)
	}
	d.Fuse(fuse)
	want := api.ErrDown
	if fuse >= len(l)+3 {
		want = api.OK
	}
	backs(t, "to its fuse", d, g, want, l...)
	d.Crash(keep...)
	d.Up()
}

// P16.3: so it is for tries of all lengths, which end in a crash themselves, perhaps within an Append, behind any number of crashes.
func TestBackCrashes(t *testing.T) {
	r := rand.New(rand.NewSource(19))
	for _, g := range few() {
		for range 15 {
			n := r.Intn(g.Undo + 1)
			d, _, before := began(t, r, g, n)
			if n < g.Undo && r.Intn(2) == 0 {
				d.Fuse(r.Intn(5))
				undo.Append(d, g, n, 5, 6, 6+r.Intn(places(g)))
			}
			d.Crash(chance(r, 400)...)
			d.Up()
			for range r.Intn(6) {
				broken(t, d, g, r.Intn(n+6), chance(r, 400)...)
			}
			l, _ := undo.Scan(d, g, 5)
			backs(t, "behind crashes", d, g, api.OK, l...)
			restored(t, d, g, before)
		}
	}
}

// chance is n choices by chance.
func chance(r *rand.Rand, n int) []bool {
	out := make([]bool, n)
	for i := range out {
		out[i] = r.Intn(2) == 0
	}
	return out
}

// P16.1: the document's example.
func TestExample(t *testing.T) {
	g := api.Geom{N: 5, F: 2, Cow: 3, Undo: 16}
	d := fresh(t, size(g))
	e, why := undo.Append(d, g, 0, 5, 6, 8)
	if why != api.OK {
		t.Fatalf("Append = %d", why)
	}
	put(t, d, 8, sector.Fill(1))
	views(t, "with its entry", d, []api.Entry{e}, 8, content(8), api.OK)
	views(t, "without", d, nil, 8, sector.Fill(1), api.OK)
	backs(t, "back", d, g, api.OK, e)
	views(t, "back", d, nil, 8, content(8), api.OK)
}
