package origin

import (
	"math"
	"math/rand"
	"slices"
	"strings"
	"testing"

	"pentimento/api"
	"pentimento/disk"
	"pentimento/sector"
)

// few are some valid volumes: the least and the greatest, of several trees, with and without room to preserve.
func few() []api.Config {
	return []api.Config{
		{Vol: 0, G: api.Geom{N: 1, F: 2, Undo: 1}, Last: 1},
		{Vol: 1, G: api.Geom{N: 1, F: 4, Cow: 2, Undo: 3}, Last: 2},
		{Vol: 7, G: api.Geom{N: 3, F: 2, Cow: 1, Undo: 5}, Last: api.MaxEpoch},
		{Vol: math.MaxUint32, G: api.Geom{N: 5, F: 2, Cow: 3, Undo: 16}, Last: 9},
		{Vol: 1 << 31, G: api.Geom{N: 9, F: 3, Cow: 7, Undo: 4}, Last: 1 << 40},
		{Vol: 3, G: api.Geom{N: 17, F: 4, Cow: 30, Undo: 40}, Last: 1000},
		{Vol: 0x01020304, G: api.Geom{N: 128, F: 2, Cow: 64, Undo: 320}, Last: api.MaxEpoch},
	}
}

// usual is a volume of a few sectors, fewer of which can be preserved.
func usual() api.Config {
	return api.Config{Vol: 5, G: api.Geom{N: 5, F: 2, Cow: 2, Undo: 16}, Last: 100}
}

// contents are n sectors, each with bytes of its own.
func contents(n int, c byte) []string {
	var out []string
	for i := range n {
		out = append(out, strings.Repeat(string([]byte{c, byte(i), 0xff, c ^ 0x5a}), 16))
	}
	return out
}

// formatted is a disk that has this volume, and a model of it on a copy.
func formatted(t *testing.T, c api.Config, more int, sectors ...string) (*disk.Disk, *model) {
	t.Helper()
	d := made(t, size(c.G)+more)
	m := &model{c: c, d: d.Copy()}
	if why := Format(d, c, sectors...); why != api.OK {
		t.Fatalf("Format = %d", why)
	}
	m.format(sectors...)
	return d, m
}

// opened opens a disk's volume, and the model's; the disk is to be like the model's.
func opened(t *testing.T, d *disk.Disk, m *model) *Volume {
	t.Helper()
	v, why := Open(d)
	if want := m.start(); v == nil || why != want {
		t.Fatalf("Open = %v %d, want %d", v, why, want)
	}
	agree(t, "Open", v, d, m)
	return v
}

// started is a volume with sectors of their own bytes, and the model of it.
func started(t *testing.T, c api.Config) (*Volume, *disk.Disk, *model) {
	t.Helper()
	d, m := formatted(t, c, 0, contents(c.G.N, 1)...)
	return opened(t, d, m), d, m
}

// agree tells if a volume, or its disk, is not as the model is.
func agree(t *testing.T, what string, v *Volume, d *disk.Disk, m *model) {
	t.Helper()
	same(t, what, d, m.d)
	if s := v.State(); !alike(s, m.state()) {
		t.Fatalf("%s: State = %+v, want %+v", what, s, m.state())
	}
	if v.Config() != m.c {
		t.Fatalf("%s: Config = %v, want %v", what, v.Config(), m.c)
	}
	for i := range m.c.G.N {
		data, why := m.d.Read(6 + i)
		if s, is := v.Read(i); s != data || is != why {
			t.Fatalf("%s: Read(%d) = %q %d, want %q %d", what, i, s, is, data, why)
		}
		if m.open == 0 {
			data, why = "", api.ErrSnap
		} else if old, is := m.old(i); is {
			data, why = old, api.OK
		}
		if s, is := v.Snap(i); s != data || is != why {
			t.Fatalf("%s: Snap(%d) = %q %d, want %q %d", what, i, s, is, data, why)
		}
	}
	for node := range count(m.c.G) {
		data, why := m.d.Read(6 + m.c.G.N + node)
		if why == api.OK {
			data = body(kindNode, data)[2:]
		}
		if s, is := v.Node(node); s != data || is != why {
			t.Fatalf("%s: Node(%d) = %q %d, want %q %d", what, node, s, is, data, why)
		}
	}
	same(t, what+" and the reads behind it", d, m.d)
}

// did tells if a call did not return what it should, and compares all: if the model had no part in the call, that changed nothing.
func did(t *testing.T, what string, why, want api.Errno, v *Volume, d *disk.Disk, m *model) {
	t.Helper()
	if why != want {
		t.Fatalf("%s = %d, want %d", what, why, want)
	}
	agree(t, what, v, d, m)
}

// writes, flushes, seals and acks do it to a volume and to its model, and compare all.
func writes(t *testing.T, v *Volume, d *disk.Disk, m *model, i int, data string) {
	t.Helper()
	did(t, "Write", v.Write(i, data), m.write(i, data), v, d, m)
}

func flushes(t *testing.T, v *Volume, d *disk.Disk, m *model) {
	t.Helper()
	did(t, "Flush", v.Flush(), m.flush(), v, d, m)
}

func seals(t *testing.T, v *Volume, d *disk.Disk, m *model) {
	t.Helper()
	epoch, why := v.Seal()
	want := m.seal()
	if want != api.OK && epoch != 0 || want == api.OK && epoch != m.epoch {
		t.Fatalf("Seal = %d %d, want %d", epoch, why, m.epoch)
	}
	did(t, "Seal", why, want, v, d, m)
}

func acks(t *testing.T, v *Volume, d *disk.Disk, m *model, epoch uint64) {
	t.Helper()
	did(t, "Ack", v.Ack(epoch), m.ack(epoch), v, d, m)
}

// P18.1: Format writes each of the sectors, the tree, the map, both slots and the volume, in this order, and nothing else: the other data sectors stay as they are. All is flushed, also what was pending ahead of it.
func TestFormat(t *testing.T) {
	for _, c := range few() {
		for _, n := range []int{0, 1, c.G.N / 2, c.G.N} {
			d := made(t, size(c.G)+n%2)
			for at := range d.Len() {
				put(t, d, at, sector.Mix(uint64(at)*0x0101010101010101+9))
			}
			d.Flush()
			put(t, d, 2, sector.Fill(2))
			put(t, d, 6+c.G.N-1, sector.Fill(3))
			sectors := contents(n, 4)
			m := &model{c: c, d: d.Copy()}
			if why, want := Format(d, c, sectors...), m.format(sectors...); why != want || want != api.OK {
				t.Fatalf("%v: Format = %d, want %d", c, why, want)
			}
			same(t, "Format", d, m.d)
			if !slices.Equal(sectors, contents(n, 4)) {
				t.Fatal("Format has changed its list")
			}
		}
	}
}

// P18.1: the sectors of a volume, told one by one.
func TestFormatBytes(t *testing.T) {
	c := api.Config{Vol: 0x01020304, G: api.Geom{N: 2, F: 3, Cow: 5, Undo: 258}, Last: 0x060708090a0b}
	d, _ := formatted(t, c, 0, sector.Fill(1))
	leaves := hash(0, sector.Fill(1)) + hash(0, sector.Zero())
	zero := strings.Repeat("\x00", 58)
	want := map[int]string{
		0:  "\x01\x14\x00\x01\x02\x03\x04\x00\x02\x03\x00\x05\x01\x02\x00\x00\x06\x07\x08\x09\x0a\x0b",
		1:  "\x02\x10" + zero[:16],
		3:  "\x03\x38" + zero[:16] + hash(1, leaves) + zero[:8],
		5:  "\x05\x28" + zero[:40],
		8:  "\x06\x22\x00\x00" + leaves[:32],
		9:  "\x06\x22\x00\x01" + leaves[32:],
		10: "\x06\x22\x00\x02" + hash(1, leaves),
	}
	for at := range d.Len() {
		s, _ := d.Kept(at)
		w, is := want[at]
		switch {
		case is:
			w += zero[:60-len(w)]
			w += num(4, sum(w))
		case at == 6:
			w = sector.Fill(1)
		default:
			w = sector.Zero()
		}
		if s != w {
			t.Errorf("sector %d is %q, want %q", at, s, w)
		}
	}
	if d.Len() != 21 {
		t.Errorf("%d sectors", d.Len())
	}
}

// formatFails tells if Format does not return this error, or changes the disk.
func formatFails(t *testing.T, what string, d *disk.Disk, c api.Config, want api.Errno, sectors ...string) {
	t.Helper()
	was := d.Copy()
	if why := Format(d, c, sectors...); why != want {
		t.Errorf("%s, %v: Format(%d sectors) = %d, want %d", what, c, len(sectors), why, want)
	}
	if d != nil {
		same(t, what, d, was)
	}
}

// P18.1: the errors of Format, in their order: of the volume, of the disk's size, of how many sectors there are, of their lengths, of the disk.
func TestFormatErrors(t *testing.T) {
	c := usual()
	n := size(c.G)
	right := made(t, n)
	wrong, late := c, c
	wrong.G.F, wrong.Last = 5, 0
	late.Last = 0
	many := contents(6, 1)
	many[0] = "x"
	for _, d := range []*disk.Disk{right, fallen(right), made(t, 1), nil} {
		for _, sectors := range [][]string{nil, {"x"}, many} {
			formatFails(t, "no geometry", d, wrong, api.ErrGeom, sectors...)
			formatFails(t, "no last epoch", d, late, api.ErrEpoch, sectors...)
		}
	}
	late.Last = api.MaxEpoch + 1
	formatFails(t, "no last epoch", right, late, api.ErrEpoch)
	for _, d := range []*disk.Disk{made(t, n-1), made(t, 1), fallen(made(t, n-1)), nil} {
		for _, sectors := range [][]string{nil, {"x"}, many} {
			formatFails(t, "small", d, c, api.ErrRange, sectors...)
		}
	}
	for _, d := range []*disk.Disk{right, fallen(right)} {
		formatFails(t, "many", d, c, api.ErrLong, many...)
		formatFails(t, "many", d, c, api.ErrLong, contents(6, 1)...)
		for _, s := range []string{"", "x", sector.Zero()[1:], sector.Zero() + "\x00"} {
			formatFails(t, "no sector", d, c, api.ErrLength, s)
			formatFails(t, "no sector", d, c, api.ErrLength, append(contents(4, 1), s)...)
		}
	}
	formatFails(t, "down", fallen(right), c, api.ErrDown)
	formatFails(t, "down", fallen(right), c, api.ErrDown, contents(5, 1)...)
	formatted(t, c, 0, contents(5, 1)...)
}

// P18.1: the error of each write and flush ends Format. What was written ahead of it stays written.
func TestFormatFuse(t *testing.T) {
	for _, c := range few()[:5] {
		sectors := contents((c.G.N+1)/2, 1)
		for fuse := 0; ; fuse++ {
			d := made(t, size(c.G))
			m := &model{c: c, d: d.Copy()}
			d.Fuse(fuse)
			m.d.Fuse(fuse)
			why, want := Format(d, c, sectors...), m.format(sectors...)
			if why != want {
				t.Fatalf("fuse %d: Format = %d, want %d", fuse, why, want)
			}
			same(t, "fuse", d, m.d)
			if why == api.OK {
				if fuse != len(sectors)+count(c.G)+9 {
					t.Errorf("%v: %d writes and flushes", c, fuse)
				}
				break
			}
		}
	}
}

// P18.2: Open counts the starts, each time in the other sector of the slot, and shows what Format made.
func TestOpen(t *testing.T) {
	for _, c := range few() {
		for _, more := range []int{0, 1} {
			d, m := formatted(t, c, more, contents(c.G.N, 1)...)
			for boot := uint64(1); boot < 5; boot++ {
				v := opened(t, d, m)
				if s := v.State(); s.Boot != boot || s.Epoch != 0 || s.Root != root(c.G, contents(c.G.N, 1)) || s.Acked != 0 || s.Open != 0 || len(s.Dirty) != 0 || s.Kept != 0 {
					t.Fatalf("State = %+v", s)
				}
				if s, _ := d.Kept(1 + int(boot%2)); s != bootSector(boot, boot) {
					t.Fatalf("start %d is %q", boot, s)
				}
			}
		}
	}
}

// laid is a disk whose volume has come far: epoch 7, of which 5 is acknowledged, is open; sectors 1 and 4 were written since, and are preserved.
func laid(t *testing.T, open uint64) (*disk.Disk, *model) {
	t.Helper()
	d, m := formatted(t, usual(), 0, contents(5, 1)...)
	a := api.Entry{Epoch: 7, Place: 4, Old: sector.Fill(8)}
	b := api.Entry{Epoch: 7, Place: 1, Old: sector.Fill(9)}
	for at, data := range map[int]string{
		1: bootSector(40, 30), 2: bootSector(39, 99),
		3: epochSector(12, 6, strings.Repeat("o", 32), 6), 4: epochSector(13, 7, strings.Repeat("r", 32), 5),
		5:                mapSector([128]bool{1: true, 4: true}, [128]bool{0: true, 2: true}, open),
		areaAt(m.c.G, 0): cowSector(0, a), areaAt(m.c.G, 1): a.Old,
		areaAt(m.c.G, 2): cowSector(1, b), areaAt(m.c.G, 3): b.Old,
	} {
		put(t, d, at, data)
		put(t, m.d, at, data)
	}
	return d, m
}

// P18.2, P18.4: Open takes from the disk what is there: the greater numbers of the slots, the map, and what was preserved. From there Seal goes on.
func TestOpenLaid(t *testing.T) {
	d, m := laid(t, 7)
	v := opened(t, d, m)
	want := State{Boot: 31, Epoch: 7, Root: strings.Repeat("r", 32), Acked: 5, Open: 7, Dirty: []int{1, 4}, Kept: 2}
	if s := v.State(); !alike(s, want) {
		t.Errorf("State = %+v, want %+v", s, want)
	}
	if s, why := v.Snap(4); s != sector.Fill(8) || why != api.OK {
		t.Errorf("Snap = %q %d", s, why)
	}
	seals(t, v, d, m)
	d, m = laid(t, 0)
	want.Open, want.Kept = 0, 0
	v = opened(t, d, m)
	if s := v.State(); !alike(s, want) {
		t.Errorf("State = %+v, want %+v", s, want)
	}
	seals(t, v, d, m)
}

// openFails tells if Open does not return this error, and nothing beside it. starts tells whether the start is counted by then.
func openFails(t *testing.T, what string, d *disk.Disk, want api.Errno, starts bool) {
	t.Helper()
	m := &model{d: d.Copy()}
	if v, why := Open(d); v != nil || why != want {
		t.Errorf("%s: Open = %v %d, want %d", what, v, why, want)
	}
	if d == nil {
		return
	}
	if starts {
		seq, _ := m.latest(1, kindBoot)
		m.run(step{ops: save(1+int((seq+1)%2), bootSector(seq+1, 31))})
	}
	same(t, what, d, m.d)
}

// with is the laid disk with other sectors: each place with its data.
func with(t *testing.T, sectors map[int]string) *disk.Disk {
	t.Helper()
	d, _ := laid(t, 7)
	for at, data := range sectors {
		put(t, d, at, data)
	}
	return d
}

// P18.2: the errors of Open ahead of the start: the disk's, the record's, another side, and a disk that is too small.
func TestOpenSuper(t *testing.T) {
	c := usual()
	d, _ := laid(t, 7)
	openFails(t, "nil", nil, api.ErrNil, false)
	openFails(t, "down", fallen(d), api.ErrDown, false)
	openFails(t, "empty", made(t, 1), api.ErrSum, false)
	openFails(t, "empty", made(t, 1200), api.ErrSum, false)
	openFails(t, "a changed byte", with(t, map[int]string{0: super(0, c)[:40] + "x" + super(0, c)[41:]}), api.ErrSum, false)
	openFails(t, "another kind", with(t, map[int]string{0: bootSector(1, 1)}), api.ErrKind, false)
	openFails(t, "no kind", with(t, map[int]string{0: raw(9, super(0, c)[2:22])}), api.ErrForm, false)
	for n := range 59 {
		if n != 20 {
			openFails(t, "another length", with(t, map[int]string{0: raw(kindSuper, (super(0, c)[2:22] + sector.Zero())[:n])}), api.ErrForm, false)
		}
	}
	wrong := c
	wrong.G.Cow = 65
	openFails(t, "no volume", with(t, map[int]string{0: super(0, wrong)}), api.ErrForm, false)
	openFails(t, "no side", with(t, map[int]string{0: super(2, c)}), api.ErrForm, false)
	openFails(t, "the target's", with(t, map[int]string{0: super(1, c)}), api.ErrKind, false)
	small := made(t, size(c.G)-1)
	for at := range small.Len() {
		data, _ := d.Read(at)
		put(t, small, at, data)
	}
	openFails(t, "small", small, api.ErrRange, false)
	put(t, small, 1, sector.Zero())
	put(t, small, 2, sector.Zero())
	openFails(t, "small, without starts", small, api.ErrRange, false)
	put(t, small, 0, super(1, c))
	openFails(t, "small, and the target's", small, api.ErrKind, false)
}

// P18.2: the errors of Open behind these: the starts must be there; and when the start is counted, the epoch and the map.
func TestOpenRecords(t *testing.T) {
	zero, long := sector.Zero(), strings.Repeat("\x00", 58)
	none := map[int]string{1: zero, 2: zero, 3: zero, 4: zero, 5: zero}
	openFails(t, "nothing", with(t, none), api.ErrNone, false)
	openFails(t, "starts of another kind", with(t, map[int]string{1: epochSector(40, 1, long[:32], 0), 2: zero}), api.ErrNone, false)
	for n := 8; n < 59; n++ {
		if n != 16 {
			openFails(t, "starts of another length", with(t, map[int]string{1: raw(kindBoot, num(8, 41)+long[8:n])}), api.ErrForm, false)
		}
		if n != 56 {
			openFails(t, "an epoch of another length", with(t, map[int]string{3: raw(kindEpoch, num(8, 14)+long[8:n]), 5: zero}), api.ErrForm, true)
		}
	}
	openFails(t, "no epoch", with(t, map[int]string{3: zero, 4: zero, 5: zero}), api.ErrNone, true)
	openFails(t, "an epoch of another kind", with(t, map[int]string{3: bootSector(1, 1), 4: bootSector(1, 1)}), api.ErrNone, true)
	openFails(t, "no map", with(t, map[int]string{5: zero}), api.ErrSum, true)
	openFails(t, "a map of another kind", with(t, map[int]string{5: bootSector(1, 1)}), api.ErrKind, true)
	openFails(t, "a map of no kind", with(t, map[int]string{5: raw(0, long[:40])}), api.ErrForm, true)
	for n := range 59 {
		if n != 40 {
			openFails(t, "a map of another length", with(t, map[int]string{5: raw(kindDirty, long[:n])}), api.ErrForm, true)
		}
	}
	for _, open := range []uint64{1, 5, 6, 8, 7 + 1<<32, 7 + 1<<63, math.MaxUint64} {
		openFails(t, "another epoch open", with(t, map[int]string{5: mapSector([128]bool{}, [128]bool{}, open)}), api.ErrForm, true)
	}
}

// P18.2: one sector of each slot is enough, and what was preserved ends where it is broken.
func TestOpenHalf(t *testing.T) {
	g, zero := usual().G, sector.Zero()
	for what, c := range map[string]struct {
		sectors map[int]string
		want    State
	}{
		"first":   {map[int]string{2: zero, 4: zero, 5: mapSector([128]bool{}, [128]bool{}, 6)}, State{Boot: 31, Epoch: 6, Root: strings.Repeat("o", 32), Acked: 6, Open: 6}},
		"second":  {map[int]string{1: zero, 3: zero}, State{Boot: 100, Epoch: 7, Root: strings.Repeat("r", 32), Acked: 5, Open: 7, Dirty: []int{1, 4}, Kept: 2}},
		"one":     {map[int]string{areaAt(g, 3): zero}, State{Boot: 31, Epoch: 7, Root: strings.Repeat("r", 32), Acked: 5, Open: 7, Dirty: []int{1, 4}, Kept: 1}},
		"nothing": {map[int]string{areaAt(g, 0): zero}, State{Boot: 31, Epoch: 7, Root: strings.Repeat("r", 32), Acked: 5, Open: 7, Dirty: []int{1, 4}}},
	} {
		d := with(t, c.sectors)
		v := opened(t, d, &model{c: usual(), d: d.Copy()})
		if s := v.State(); !alike(s, c.want) {
			t.Errorf("%s: State = %+v, want %+v", what, s, c.want)
		}
	}
}

// P18.2: the error of the write and of the flush of the start.
func TestOpenFuse(t *testing.T) {
	for fuse := range 3 {
		d, m := laid(t, 7)
		d.Fuse(fuse)
		m.d.Fuse(fuse)
		v, why := Open(d)
		if want := m.start(); why != want || (v == nil) != (fuse < 2) {
			t.Fatalf("fuse %d: Open = %v %d, want %d", fuse, v, why, want)
		}
		same(t, "fuse", d, m.d)
	}
}

// P18.3: a read returns what was written last; a sector is marked once between two seals. Nothing is preserved without a snapshot.
func TestWrite(t *testing.T) {
	for _, c := range few() {
		v, d, m := started(t, c)
		for _, i := range []int{c.G.N - 1, 0, c.G.N / 2, 0} {
			for n := range byte(3) {
				want := d.Done() + 1
				if !slices.Contains(v.State().Dirty, i) {
					want += 2
				}
				writes(t, v, d, m, i, sector.Fill(n+byte(i)))
				if d.Done() != want {
					t.Errorf("done %d, want %d", d.Done(), want)
				}
			}
			flushes(t, v, d, m)
		}
	}
}

// P18.3: while a snapshot is open, what was is preserved ahead of the first write to each sector; the write behind the last one that there is room for gives the snapshot up.
func TestWriteOpen(t *testing.T) {
	for _, c := range few() {
		v, d, m := started(t, c)
		writes(t, v, d, m, 0, sector.Fill(5))
		seals(t, v, d, m)
		for i := range c.G.N {
			for n := range byte(2) {
				writes(t, v, d, m, i, sector.Fill(n+byte(i)))
			}
			kept, open := i+1, uint64(1)
			if i >= c.G.Cow {
				kept, open = 0, 0
			}
			if s := v.State(); s.Kept != kept || s.Open != open {
				t.Fatalf("%v: State = %+v", c, s)
			}
		}
		if c.G.Cow < c.G.N && len(v.State().Dirty) != c.G.N {
			t.Errorf("State = %+v", v.State())
		}
	}
}

// P18.3: when the snapshot is given up, what was frozen is dirty again, also where it was not written since.
func TestGivenUp(t *testing.T) {
	v, d, m := started(t, usual())
	writes(t, v, d, m, 4, sector.Fill(5))
	seals(t, v, d, m)
	for i := range 3 {
		writes(t, v, d, m, i, sector.Fill(6))
	}
	if s := v.State(); !slices.Equal(s.Dirty, []int{0, 1, 2, 4}) || s.Open != 0 || s.Kept != 0 || s.Epoch != 1 {
		t.Errorf("State = %+v", s)
	}
	seals(t, v, d, m)
	want := []string{sector.Fill(6), sector.Fill(6), sector.Fill(6), contents(5, 1)[3], sector.Fill(5)}
	if s := v.State(); s.Root != root(usual().G, want) || s.Open != 2 {
		t.Errorf("State = %+v", s)
	}
}

// P18.3: Read and Write of a sector that there is not, and of what is no sector, ahead of the disk's errors.
func TestReadWriteErrors(t *testing.T) {
	for _, c := range few() {
		v, d, m := started(t, c)
		for range 2 {
			for _, i := range []int{-1, -6, c.G.N, c.G.N + 1, 128, 1 << 32, -1 << 32, math.MaxInt, math.MaxInt - 6, math.MinInt} {
				for _, data := range []string{sector.Zero(), "", "x"} {
					did(t, "Write", v.Write(i, data), api.ErrRange, v, d, m)
				}
				s, why := v.Read(i)
				if s != "" {
					t.Errorf("Read(%d) = %q", i, s)
				}
				did(t, "Read", why, api.ErrRange, v, d, m)
			}
			for _, data := range []string{"", "x", sector.Zero()[1:], sector.Zero() + "\x00"} {
				did(t, "Write", v.Write(0, data), api.ErrLength, v, d, m)
			}
			d.Crash()
			m.d.Crash()
			s, why := v.Read(0)
			if s != "" || why != api.ErrDown || v.Write(0, sector.Fill(1)) != api.ErrDown || v.Flush() != api.ErrDown {
				t.Errorf("Read = %q %d", s, why)
			}
			agree(t, "down", v, d, m)
		}
	}
}

// P18.4: Seal seals the sectors as they are, whatever is open, and its snapshot is open then.
func TestSeal(t *testing.T) {
	for _, c := range few() {
		v, d, m := started(t, c)
		now := contents(c.G.N, 1)
		for epoch := uint64(1); epoch <= min(c.Last, 12); epoch++ {
			for n := range epoch % 5 {
				i := int(epoch*7+n*3) % c.G.N
				now[i] = sector.Mix(epoch<<32 + n)
				writes(t, v, d, m, i, now[i])
			}
			if epoch%3 == 0 {
				acks(t, v, d, m, epoch-1)
			}
			got, why := v.Seal()
			if why != m.seal() || got != epoch {
				t.Fatalf("Seal = %d %d, want %d", got, why, epoch)
			}
			agree(t, "Seal", v, d, m)
			if s := v.State(); s.Epoch != epoch || s.Root != root(c.G, now) || s.Open != epoch || len(s.Dirty) != 0 || s.Kept != 0 {
				t.Fatalf("State = %+v", s)
			}
			if all := digests(c.G, now); !slices.Equal(all, tree(t, v)) {
				t.Fatal("the tree is another one")
			}
		}
	}
}

// tree is what Node returns of all nodes.
func tree(t *testing.T, v *Volume) []string {
	t.Helper()
	var out []string
	for node := range count(v.Config().G) {
		s, why := v.Node(node)
		if why != api.OK {
			t.Fatalf("Node(%d) = %d", node, why)
		}
		out = append(out, s)
	}
	return out
}

// P18.4: the last epoch can be sealed, and none behind it: that is told ahead of the disk's errors, and changes nothing.
func TestSealLast(t *testing.T) {
	for _, last := range []uint64{1, 2, 5} {
		c := usual()
		c.Last = last
		v, d, m := started(t, c)
		for range last {
			seals(t, v, d, m)
		}
		writes(t, v, d, m, 0, sector.Fill(1))
		for range 2 {
			epoch, why := v.Seal()
			if epoch != 0 {
				t.Errorf("Seal = %d", epoch)
			}
			did(t, "Seal", why, api.ErrEpoch, v, d, m)
			d.Crash()
			m.d.Crash()
		}
	}
	c := usual()
	c.Last = api.MaxEpoch
	d, m := formatted(t, c, 0)
	for _, x := range []*disk.Disk{d, m.d} {
		put(t, x, 4, epochSector(1, api.MaxEpoch-1, strings.Repeat("r", 32), 0))
	}
	v := opened(t, d, m)
	seals(t, v, d, m)
	if _, why := v.Seal(); why != api.ErrEpoch || v.State().Epoch != api.MaxEpoch {
		t.Errorf("Seal = %d", why)
	}
	put(t, d, 3, epochSector(9, math.MaxUint64, strings.Repeat("r", 32), 0))
	put(t, d, 5, mapSector([128]bool{}, [128]bool{}, 0))
	v, _ = Open(d)
	if epoch, why := v.Seal(); epoch != 0 || why != api.ErrEpoch {
		t.Errorf("Seal = %d %d", epoch, why)
	}
}

// P18.4: a tree that can not be read ends Seal. What was written ahead of it stays written: the snapshot is given up.
func TestSealTree(t *testing.T) {
	v, d, m := started(t, usual())
	seals(t, v, d, m)
	writes(t, v, d, m, 0, sector.Fill(1))
	put(t, d, 6+5+3, sector.Zero())
	if epoch, why := v.Seal(); epoch != 0 || why != api.ErrSum {
		t.Errorf("Seal = %d %d", epoch, why)
	}
	want := State{Boot: 1, Epoch: 1, Root: m.root, Dirty: []int{0}}
	if s := v.State(); !alike(s, want) {
		t.Errorf("State = %+v, want %+v", s, want)
	}
	if s, why := v.Node(3); s != "" || why != api.ErrSum {
		t.Errorf("Node = %q %d", s, why)
	}
	if why := v.Write(3, sector.Fill(2)); why != api.OK {
		t.Errorf("Write = %d", why)
	}
	if epoch, why := v.Seal(); epoch != 2 || why != api.OK {
		t.Errorf("Seal = %d %d", epoch, why)
	}
}

// P18.5: Snap without a snapshot, ahead of a sector that there is not, and that ahead of the disk's errors. What was preserved is returned without the disk.
func TestSnap(t *testing.T) {
	v, d, m := started(t, usual())
	places := []int{-1, -6, 5, 6, 1 << 32, math.MaxInt, math.MinInt}
	snapFails := func(i int, want api.Errno) {
		t.Helper()
		if s, why := v.Snap(i); s != "" || why != want {
			t.Errorf("Snap(%d) = %q %d, want %d", i, s, why, want)
		}
	}
	for _, i := range append(places, 0, 4) {
		snapFails(i, api.ErrSnap)
	}
	seals(t, v, d, m)
	writes(t, v, d, m, 2, sector.Fill(7))
	writes(t, v, d, m, 2, sector.Fill(8))
	for i, want := range contents(5, 1) {
		if s, why := v.Snap(i); s != want || why != api.OK {
			t.Errorf("Snap(%d) = %q %d", i, s, why)
		}
	}
	d.Crash()
	for _, i := range places {
		snapFails(i, api.ErrRange)
	}
	snapFails(0, api.ErrDown)
	if s, why := v.Snap(2); s != contents(5, 1)[2] || why != api.OK {
		t.Errorf("Snap = %q %d", s, why)
	}
}

// P18.5: Node returns what nodes.Get does: of a node that there is not, of a disk that is down, of a record that is another node's.
func TestNode(t *testing.T) {
	v, d, m := started(t, usual())
	if want := digests(m.c.G, contents(5, 1)); !slices.Equal(tree(t, v), want) {
		t.Error("Node")
	}
	put(t, d, 6+5+2, nodeSector(3, strings.Repeat("r", 32)))
	nodeFails := func(node int, want api.Errno) {
		t.Helper()
		if s, why := v.Node(node); s != "" || why != want {
			t.Errorf("Node(%d) = %q %d, want %d", node, s, why, want)
		}
	}
	nodeFails(2, api.ErrForm)
	d.Crash()
	nodeFails(0, api.ErrDown)
	for _, node := range []int{-1, 11, 12, 1 << 32, math.MaxInt, math.MinInt} {
		nodeFails(node, api.ErrRange)
	}
}

// P18.5: Ack makes a greater epoch the acknowledged one, and closes the snapshot that is the epoch's, whether it is greater or not.
func TestAck(t *testing.T) {
	v, d, m := started(t, usual())
	for range 3 {
		seals(t, v, d, m)
		writes(t, v, d, m, 1, sector.Mix(m.epoch))
	}
	for _, c := range []struct{ epoch, acked, open uint64 }{{2, 2, 3}, {1, 2, 3}, {2, 2, 3}, {3, 3, 0}, {3, 3, 0}, {1, 3, 0}} {
		done := d.Done()
		was := v.State()
		acks(t, v, d, m, c.epoch)
		s := v.State()
		if s.Acked != c.acked || s.Open != c.open || s.Epoch != 3 || s.Kept != int(min(c.open, 1)) || !slices.Equal(s.Dirty, []int{1}) {
			t.Errorf("Ack(%d): State = %+v", c.epoch, s)
		}
		if alike(s, was) && d.Done() != done {
			t.Errorf("Ack(%d): done %d", c.epoch, d.Done()-done)
		}
	}
	// The snapshot may be open though its epoch is acknowledged: the disk failed between both.
	seals(t, v, d, m)
	d.Fuse(2)
	m.d.Fuse(2)
	acks(t, v, d, m, 4)
	if s := v.State(); s.Acked != 4 || s.Open != 4 {
		t.Errorf("State = %+v", s)
	}
	d.Up()
	m.d.Up()
	v = opened(t, d, m)
	if s := v.State(); s.Acked != 4 || s.Open != 4 {
		t.Errorf("State = %+v", s)
	}
	acks(t, v, d, m, 4)
	if s := v.State(); s.Acked != 4 || s.Open != 0 {
		t.Errorf("State = %+v", s)
	}
}

// P18.5: Ack of an epoch that there is not, ahead of the disk's errors.
func TestAckErrors(t *testing.T) {
	v, d, m := started(t, usual())
	for range 3 {
		for _, epoch := range []uint64{0, m.epoch + 1, m.epoch + 2, m.epoch + 1<<32, 1 << 63, math.MaxUint64} {
			did(t, "Ack", v.Ack(epoch), api.ErrEpoch, v, d, m)
		}
		seals(t, v, d, m)
	}
	d.Crash()
	m.d.Crash()
	did(t, "Ack", v.Ack(0), api.ErrEpoch, v, d, m)
	did(t, "Ack", v.Ack(4), api.ErrEpoch, v, d, m)
	did(t, "Ack", v.Ack(3), api.ErrDown, v, d, m)
	did(t, "Ack", v.Ack(1), api.ErrDown, v, d, m)
}

// P18.5: a State is its caller's.
func TestState(t *testing.T) {
	v, d, m := started(t, usual())
	for _, i := range []int{4, 0, 3} {
		writes(t, v, d, m, i, sector.Fill(1))
	}
	s := v.State()
	for i := range s.Dirty {
		s.Dirty[i] = 99
	}
	_ = append(s.Dirty[:0], 7)
	if s := v.State(); !slices.Equal(s.Dirty, []int{0, 3, 4}) {
		t.Errorf("State = %+v", s)
	}
	agree(t, "State", v, d, m)
}

// P18.3, P18.4, P18.5: a volume that is not there, and one that no disk has.
func TestNone(t *testing.T) {
	for _, v := range []*Volume{nil, {}} {
		s, why := v.Read(0)
		l := []api.Errno{why, v.Write(0, sector.Zero()), v.Flush()}
		epoch, why := v.Seal()
		snap, why2 := v.Snap(0)
		node, why3 := v.Node(0)
		l = append(l, why, why2, why3, v.Ack(1))
		want := slices.Repeat([]api.Errno{api.ErrNil}, 7)
		if v != nil {
			want = []api.Errno{api.ErrRange, api.ErrRange, api.ErrNil, api.ErrEpoch, api.ErrSnap, api.ErrRange, api.ErrEpoch}
		}
		if !slices.Equal(l, want) || s != "" || epoch != 0 || snap != "" || node != "" {
			t.Errorf("%v, want %v", l, want)
		}
		if !alike(v.State(), State{}) || v.Config() != (api.Config{}) {
			t.Error("State")
		}
	}
}

// P18.3, P18.4, P18.5: each write and flush of each call may fail. What was written ahead of it stays written, and what the volume knows is what was flushed.
func TestFuses(t *testing.T) {
	type call func(*testing.T, *Volume, *disk.Disk, *model)
	writing := func(i int, c byte) call {
		return func(t *testing.T, v *Volume, d *disk.Disk, m *model) { writes(t, v, d, m, i, sector.Fill(c)) }
	}
	acking := func(epoch uint64) call {
		return func(t *testing.T, v *Volume, d *disk.Disk, m *model) { acks(t, v, d, m, epoch) }
	}
	calls := []call{
		writing(0, 1), seals, writing(1, 2), writing(0, 3), flushes, writing(0, 4), writing(2, 5), writing(0, 6),
		seals, acking(1), writing(3, 7), seals, acking(3), writing(3, 8), seals, writing(4, 9), acking(4), seals, seals,
	}
	for fuse := 0; ; fuse++ {
		v, d, m := started(t, usual())
		d.Fuse(fuse)
		m.d.Fuse(fuse)
		for _, c := range calls {
			if c(t, v, d, m); d.Down() {
				break
			}
		}
		if !d.Down() {
			if fuse < 60 {
				t.Errorf("%d writes and flushes", fuse)
			}
			return
		}
		d.Up()
		m.d.Up()
		opened(t, d, m)
	}
}

// P18.1 to P18.5: long rows of calls by chance, with crashes of which anything is kept, are what the document says, write by write.
func TestRows(t *testing.T) {
	r := rand.New(rand.NewSource(18))
	for _, c := range few() {
		c.Last = max(c.Last, 1000)
		for range 3 {
			v, d, m := started(t, c)
			for range 120 {
				if r.Intn(4) == 0 {
					fuse := r.Intn(12)
					d.Fuse(fuse)
					m.d.Fuse(fuse)
				}
				switch n := r.Intn(12); {
				case n < 6:
					writes(t, v, d, m, r.Intn(min(c.G.N, 1+r.Intn(c.G.N))), sector.Mix(r.Uint64()))
				case n < 7:
					flushes(t, v, d, m)
				case n < 9:
					seals(t, v, d, m)
				case n < 11 && m.epoch > 0:
					acks(t, v, d, m, m.epoch-uint64(r.Intn(int(min(m.epoch, 3)))))
				}
				if d.Down() || r.Intn(15) == 0 {
					keep := chance(r, 300)
					for _, x := range []*disk.Disk{d, m.d} {
						x.Crash(keep...)
						x.Up()
					}
					v = opened(t, d, m)
				}
			}
		}
	}
}

// P18.5: the document's example.
func TestExample(t *testing.T) {
	v, d, m := started(t, usual())
	writes(t, v, d, m, 2, sector.Fill(1))
	seals(t, v, d, m)
	writes(t, v, d, m, 2, sector.Fill(2))
	if s, why := v.Snap(2); s != sector.Fill(1) || why != api.OK {
		t.Errorf("Snap = %q %d", s, why)
	}
	if s, why := v.Read(2); s != sector.Fill(2) || why != api.OK {
		t.Errorf("Read = %q %d", s, why)
	}
}
