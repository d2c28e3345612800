package mirror

import (
	"math"
	"math/rand"
	"slices"
	"strings"
	"testing"

	"pentimento/api"
	"pentimento/disk"
	"pentimento/sector"
)

// few are some valid volumes: the least and the greatest, of several trees, with room to undo everything, or just that, or less.
func few() []api.Config {
	return []api.Config{
		{Vol: 0, G: api.Geom{N: 1, F: 2, Undo: 1}, Last: 1},
		{Vol: 1, G: api.Geom{N: 1, F: 4, Cow: 2, Undo: 2}, Last: 2},
		{Vol: 7, G: api.Geom{N: 3, F: 2, Cow: 1, Undo: 9}, Last: api.MaxEpoch},
		{Vol: math.MaxUint32, G: api.Geom{N: 5, F: 2, Cow: 3, Undo: 15}, Last: 9},
		{Vol: 1 << 31, G: api.Geom{N: 9, F: 3, Cow: 7, Undo: 20}, Last: 1 << 40},
		{Vol: 3, G: api.Geom{N: 17, F: 4, Cow: 30, Undo: 60}, Last: 1000},
		{Vol: 0x01020304, G: api.Geom{N: 128, F: 2, Cow: 64, Undo: 320}, Last: api.MaxEpoch},
	}
}

// usual is a volume of a few sectors, with a tree of 5, 3, 2 and 1 nodes, all of which can be undone.
func usual() api.Config {
	return api.Config{Vol: 5, G: api.Geom{N: 5, F: 2, Cow: 2, Undo: 16}, Last: 100}
}

// tight is a volume with room to undo a sector and what is above it, and one thing more.
func tight() api.Config {
	return api.Config{Vol: 6, G: api.Geom{N: 4, F: 2, Undo: 5}, Last: 50}
}

// contents are n sectors, each with bytes of its own.
func contents(n int, c byte) []string {
	var out []string
	for i := range n {
		out = append(out, strings.Repeat(string([]byte{c, byte(i), 0xff, c ^ 0x5a}), 16))
	}
	return out
}

// formatted is a disk that has this volume, and a model of it on a copy.
func formatted(t *testing.T, c api.Config, more int, sectors ...string) (*disk.Disk, *model) {
	t.Helper()
	d := made(t, size(c.G)+more)
	m := &model{c: c, d: d.Copy()}
	if why := Format(d, c, sectors...); why != api.OK {
		t.Fatalf("Format = %d", why)
	}
	m.format(sectors...)
	return d, m
}

// opened opens a disk's volume, and the model's; the disk is to be like the model's.
func opened(t *testing.T, d *disk.Disk, m *model) *Volume {
	t.Helper()
	v, why := Open(d)
	if want := m.start(); v == nil || why != want {
		t.Fatalf("Open = %v %d, want %d", v, why, want)
	}
	agree(t, "Open", v, d, m)
	return v
}

// started is a volume with sectors of their own bytes, and the model of it.
func started(t *testing.T, c api.Config) (*Volume, *disk.Disk, *model) {
	t.Helper()
	d, m := formatted(t, c, 0, contents(c.G.N, 1)...)
	return opened(t, d, m), d, m
}

// agree tells if a volume, or its disk, is not as the model is. What it reads are the sectors of its epoch, whatever a try wrote.
func agree(t *testing.T, what string, v *Volume, d *disk.Disk, m *model) {
	t.Helper()
	same(t, what, d, m.d)
	if s := v.State(); s != m.state() {
		t.Fatalf("%s: State = %+v, want %+v", what, s, m.state())
	}
	if v.Config() != m.c {
		t.Fatalf("%s: Config = %v, want %v", what, v.Config(), m.c)
	}
	for i, data := range m.image {
		want := api.OK
		if d.Down() {
			data, want = "", api.ErrDown
		}
		if s, why := v.Read(i); s != data || why != want {
			t.Fatalf("%s: Read(%d) = %q %d, want %q %d", what, i, s, why, data, want)
		}
	}
	if !slices.Equal(v.Tree().All(), digests(m.c.G, m.image)) {
		t.Fatalf("%s: another tree", what)
	}
	same(t, what+" and the reads behind it", d, m.d)
}

// did tells if a call did not return what it should, and compares all: if the model had no part in the call, that changed nothing.
func did(t *testing.T, what string, why, want api.Errno, v *Volume, d *disk.Disk, m *model) {
	t.Helper()
	if why != want {
		t.Fatalf("%s = %d, want %d", what, why, want)
	}
	agree(t, what, v, d, m)
}

// begins, applies, finishes, goes back and learns do it to a volume and to its model, and compare all.
func begins(t *testing.T, v *Volume, d *disk.Disk, m *model, epoch uint64, root string) {
	t.Helper()
	did(t, "Begin", v.Begin(epoch, root), m.begin(epoch, root), v, d, m)
}

func applies(t *testing.T, v *Volume, d *disk.Disk, m *model, i int, data string) {
	t.Helper()
	did(t, "Apply", v.Apply(i, data), m.apply(i, data), v, d, m)
}

func finishes(t *testing.T, v *Volume, d *disk.Disk, m *model) {
	t.Helper()
	did(t, "Finish", v.Finish(), m.finish(), v, d, m)
}

func goesBack(t *testing.T, v *Volume, d *disk.Disk, m *model) {
	t.Helper()
	did(t, "Back", v.Back(), m.back(), v, d, m)
}

func learns(t *testing.T, v *Volume, d *disk.Disk, m *model, n uint64) {
	t.Helper()
	did(t, "Session", v.Session(n), m.know(n), v, d, m)
}

// changed is a volume's sectors with others in place of some.
func changed(m *model, others map[int]string) []string {
	out := slices.Clone(m.image)
	for i, data := range others {
		out[i] = data
	}
	return out
}

// reaches is a whole try, with these sectors.
func reaches(t *testing.T, v *Volume, d *disk.Disk, m *model, epoch uint64, others map[int]string) {
	t.Helper()
	begins(t, v, d, m, epoch, root(m.c.G, changed(m, others)))
	for i := range m.c.G.N {
		if data, is := others[i]; is {
			applies(t, v, d, m, i, data)
		}
	}
	finishes(t, v, d, m)
	if s := v.State(); s.Epoch != epoch || s.Try != 0 || s.Undo != 0 {
		t.Fatalf("State = %+v, want epoch %d", s, epoch)
	}
}

// P19.1: Format writes each of the sectors, the tree, the head of entry 0, both slots and the volume, in this order, and nothing else: the other data sectors stay as they are. All is flushed, also what was pending ahead of it.
func TestFormat(t *testing.T) {
	for _, c := range few() {
		for _, n := range []int{0, 1, c.G.N / 2, c.G.N} {
			d := made(t, size(c.G)+n%2)
			for at := range d.Len() {
				put(t, d, at, sector.Mix(uint64(at)*0x0101010101010101+9))
			}
			d.Flush()
			put(t, d, 2, sector.Fill(2))
			put(t, d, 6+c.G.N-1, sector.Fill(3))
			sectors := contents(n, 4)
			m := &model{c: c, d: d.Copy()}
			if why, want := Format(d, c, sectors...), m.format(sectors...); why != want || want != api.OK {
				t.Fatalf("%v: Format = %d, want %d", c, why, want)
			}
			same(t, "Format", d, m.d)
			if !slices.Equal(sectors, contents(n, 4)) {
				t.Fatal("Format has changed its list")
			}
		}
	}
}

// P19.1: the sectors of a volume, told one by one.
func TestFormatBytes(t *testing.T) {
	c := api.Config{Vol: 0x01020304, G: api.Geom{N: 2, F: 3, Cow: 5, Undo: 3}, Last: 0x060708090a0b}
	d, _ := formatted(t, c, 0, sector.Fill(1))
	leaves := hash(0, sector.Fill(1)) + hash(0, sector.Zero())
	zero := strings.Repeat("\x00", 58)
	want := map[int]string{
		0:  "\x01\x14\x01\x01\x02\x03\x04\x00\x02\x03\x00\x05\x00\x03\x00\x00\x06\x07\x08\x09\x0a\x0b",
		1:  "\x02\x18" + zero[:24],
		3:  "\x04\x30" + zero[:16] + hash(1, leaves),
		8:  "\x06\x22\x00\x00" + leaves[:32],
		9:  "\x06\x22\x00\x01" + leaves[32:],
		10: "\x06\x22\x00\x02" + hash(1, leaves),
	}
	for at := range d.Len() {
		s, _ := d.Kept(at)
		w, is := want[at]
		switch {
		case is:
			w += zero[:60-len(w)]
			w += num(4, sum(w))
		case at == 6:
			w = sector.Fill(1)
		default:
			w = sector.Zero()
		}
		if s != w {
			t.Errorf("sector %d is %q, want %q", at, s, w)
		}
	}
	if d.Len() != 17 {
		t.Errorf("%d sectors", d.Len())
	}
}

// formatFails tells if Format does not return this error, or changes the disk.
func formatFails(t *testing.T, what string, d *disk.Disk, c api.Config, want api.Errno, sectors ...string) {
	t.Helper()
	was := d.Copy()
	if why := Format(d, c, sectors...); why != want {
		t.Errorf("%s, %v: Format(%d sectors) = %d, want %d", what, c, len(sectors), why, want)
	}
	if d != nil {
		same(t, what, d, was)
	}
}

// P19.1: the errors of Format, in their order: of the volume, of the disk's size, of how many sectors there are, of their lengths, of the disk.
func TestFormatErrors(t *testing.T) {
	c := usual()
	n := size(c.G)
	right := made(t, n)
	wrong, late := c, c
	wrong.G.F, wrong.Last = 5, 0
	late.Last = 0
	many := contents(6, 1)
	many[0] = "x"
	for _, d := range []*disk.Disk{right, fallen(right), made(t, 1), nil} {
		for _, sectors := range [][]string{nil, {"x"}, many} {
			formatFails(t, "no geometry", d, wrong, api.ErrGeom, sectors...)
			formatFails(t, "no last epoch", d, late, api.ErrEpoch, sectors...)
		}
	}
	late.Last = api.MaxEpoch + 1
	formatFails(t, "no last epoch", right, late, api.ErrEpoch)
	for _, d := range []*disk.Disk{made(t, n-1), made(t, 1), fallen(made(t, n-1)), nil} {
		for _, sectors := range [][]string{nil, {"x"}, many} {
			formatFails(t, "small", d, c, api.ErrRange, sectors...)
		}
	}
	for _, d := range []*disk.Disk{right, fallen(right)} {
		formatFails(t, "many", d, c, api.ErrLong, many...)
		formatFails(t, "many", d, c, api.ErrLong, contents(6, 1)...)
		for _, s := range []string{"", "x", sector.Zero()[1:], sector.Zero() + "\x00"} {
			formatFails(t, "no sector", d, c, api.ErrLength, s)
			formatFails(t, "no sector", d, c, api.ErrLength, append(contents(4, 1), s)...)
		}
	}
	formatFails(t, "down", fallen(right), c, api.ErrDown)
	formatFails(t, "down", fallen(right), c, api.ErrDown, contents(5, 1)...)
	formatted(t, c, 0, contents(5, 1)...)
}

// P19.1: the error of each write and flush ends Format. What was written ahead of it stays written.
func TestFormatFuse(t *testing.T) {
	for _, c := range few()[:5] {
		sectors := contents((c.G.N+1)/2, 1)
		for fuse := 0; ; fuse++ {
			d := made(t, size(c.G))
			m := &model{c: c, d: d.Copy()}
			d.Fuse(fuse)
			m.d.Fuse(fuse)
			why, want := Format(d, c, sectors...), m.format(sectors...)
			if why != want {
				t.Fatalf("fuse %d: Format = %d, want %d", fuse, why, want)
			}
			same(t, "fuse", d, m.d)
			if why == api.OK {
				if fuse != len(sectors)+count(c.G)+9 {
					t.Errorf("%v: %d writes and flushes", c, fuse)
				}
				break
			}
		}
	}
}

// P19.2: Open counts the starts, each time in the other sector of the slot, and shows what Format made.
func TestOpen(t *testing.T) {
	for _, c := range few() {
		for _, more := range []int{0, 1} {
			d, m := formatted(t, c, more, contents(c.G.N, 1)...)
			for boot := uint64(1); boot < 5; boot++ {
				v := opened(t, d, m)
				if s, want := v.State(), (State{Boot: boot, Root: root(c.G, contents(c.G.N, 1))}); s != want {
					t.Fatalf("State = %+v, want %+v", s, want)
				}
				if s, _ := d.Kept(1 + int(boot%2)); s != bootSector(boot, boot, 0) {
					t.Fatalf("start %d is %q", boot, s)
				}
			}
		}
	}
}

// laid is a disk whose volume has come far: epoch 7, and behind it a try for epoch 9 that wrote sectors 4 and 1, and the node of the former.
func laid(t *testing.T) (*disk.Disk, *model) {
	t.Helper()
	d, m := formatted(t, usual(), 0, contents(5, 1)...)
	g, tag := m.c.G, uint64(30)<<20+2
	l := []api.Entry{
		{Tag: tag, Epoch: 9, Place: 6 + 4, Old: contents(5, 1)[4]},
		{Tag: tag, Epoch: 9, Place: 6 + 1, Old: contents(5, 1)[1]},
		{Tag: tag, Epoch: 9, Place: 6 + 5 + 4, Old: nodeSector(4, hash(0, contents(5, 1)[4]))},
	}
	sectors := map[int]string{
		1: bootSector(40, 30, 77), 2: bootSector(39, 99, 88),
		3: commitSector(12, 6, strings.Repeat("o", 32)), 4: commitSector(13, 7, root(g, contents(5, 1))),
		6 + 4: sector.Fill(1), 6 + 1: sector.Fill(2), 6 + 5 + 4: sector.Fill(3),
	}
	for k, e := range l {
		sectors[areaAt(g, 2*k)], sectors[areaAt(g, 2*k+1)] = undoSector(k, e), e.Old
	}
	for at, data := range sectors {
		put(t, d, at, data)
		put(t, m.d, at, data)
	}
	return d, m
}

// P19.2: Open takes from the disk what is there: the greater numbers of the slots, and what a try left is undone. From there it goes on.
func TestOpenLaid(t *testing.T) {
	d, m := laid(t)
	v := opened(t, d, m)
	want := State{Boot: 31, Session: 77, Epoch: 7, Root: root(m.c.G, contents(5, 1))}
	if s := v.State(); s != want {
		t.Errorf("State = %+v, want %+v", s, want)
	}
	for i, data := range contents(5, 1) {
		if s, why := v.Read(i); s != data || why != api.OK {
			t.Errorf("Read(%d) = %q %d", i, s, why)
		}
	}
	if s, _ := d.Kept(areaAt(m.c.G, 0)); s != sector.Zero() {
		t.Errorf("the head is %q", s)
	}
	// Once undone, it is not undone again.
	put(t, d, 6+2, sector.Fill(9))
	put(t, m.d, 6+2, sector.Fill(9))
	done := d.Done()
	v, why := Open(d)
	if v == nil || why != api.OK || d.Done() != done+2 {
		t.Errorf("Open = %v %d, done %d", v, why, d.Done()-done)
	}
	m.start()
	same(t, "Open", d, m.d)
}

// P19.2, P19.4, P19.5: a try behind that has its own tag: the starts and the tries since then.
func TestTags(t *testing.T) {
	d, m := laid(t)
	v := opened(t, d, m)
	for n := range uint64(4) {
		begins(t, v, d, m, 20, strings.Repeat("r", 32))
		applies(t, v, d, m, 3, sector.Fill(byte(n)))
		head, _ := d.Kept(areaAt(m.c.G, 0))
		want := undoSector(0, api.Entry{Tag: 31*1048576 + 1 + n, Epoch: 20, Place: 6 + 3, Old: contents(5, 1)[3]})
		if head != want {
			t.Errorf("try %d: the head is %q, want %q", n, head, want)
		}
		goesBack(t, v, d, m)
	}
}

// with is the laid disk with other sectors: each place with its data.
func with(t *testing.T, sectors map[int]string) *disk.Disk {
	t.Helper()
	d, _ := laid(t)
	for at, data := range sectors {
		put(t, d, at, data)
	}
	return d
}

// P19.2: what is not of an epoch above the volume's is not undone, though it is of a try.
func TestOpenOldEntries(t *testing.T) {
	g := usual().G
	for epoch := range uint64(10) {
		e := api.Entry{Tag: 5, Epoch: epoch, Place: 6 + 2, Old: contents(5, 1)[2]}
		// The tree is that of sectors in which nothing was written: it is right, whether this is undone or not.
		d := with(t, map[int]string{
			6 + 4: contents(5, 1)[4], 6 + 1: contents(5, 1)[1], 6 + 5 + 4: nodeSector(4, hash(0, contents(5, 1)[4])),
			6 + 2: sector.Fill(9), areaAt(g, 0): undoSector(0, e), areaAt(g, 1): e.Old,
		})
		v, why := Open(d)
		if v == nil || why != api.OK {
			t.Fatalf("Open = %v %d", v, why)
		}
		want := sector.Fill(9)
		if epoch > 7 {
			want = e.Old
		}
		if s, why := v.Read(2); s != want || why != api.OK {
			t.Errorf("epoch %d: Read = %q %d, want %q", epoch, s, why, want)
		}
	}
}

// openFails tells if Open does not return this error, and nothing beside it. starts tells whether the start is counted by then, and undoes whether the try is undone.
func openFails(t *testing.T, what string, d *disk.Disk, want api.Errno, starts, undoes bool) {
	t.Helper()
	m := &model{c: usual(), d: d.Copy(), epoch: 7}
	if v, why := Open(d); v != nil || why != want {
		t.Errorf("%s: Open = %v %d, want %d", what, v, why, want)
	}
	if d == nil {
		return
	}
	if starts {
		seq, _ := m.latest(1, kindBoot)
		m.run(step{ops: save(1+int((seq+1)%2), bootSector(seq+1, 31, 77))})
	}
	if undoes {
		m.run(step{ops: m.undone(m.scan())})
	}
	same(t, what, d, m.d)
}

// P19.2: the errors of Open ahead of the start: the disk's, the record's, another side, and a disk that is too small.
func TestOpenSuper(t *testing.T) {
	c := usual()
	d, _ := laid(t)
	fails := func(what string, d *disk.Disk, want api.Errno) {
		t.Helper()
		openFails(t, what, d, want, false, false)
	}
	fails("nil", nil, api.ErrNil)
	fails("down", fallen(d), api.ErrDown)
	fails("empty", made(t, 1), api.ErrSum)
	fails("empty", made(t, 1200), api.ErrSum)
	fails("a changed byte", with(t, map[int]string{0: super(1, c)[:40] + "x" + super(1, c)[41:]}), api.ErrSum)
	fails("another kind", with(t, map[int]string{0: bootSector(1, 1, 1)}), api.ErrKind)
	fails("no kind", with(t, map[int]string{0: raw(9, super(1, c)[2:22])}), api.ErrForm)
	for n := range 59 {
		if n != 20 {
			fails("another length", with(t, map[int]string{0: raw(kindSuper, (super(1, c)[2:22] + sector.Zero())[:n])}), api.ErrForm)
		}
	}
	wrong := c
	wrong.G.Undo = 321
	fails("no volume", with(t, map[int]string{0: super(1, wrong)}), api.ErrForm)
	fails("no side", with(t, map[int]string{0: super(2, c)}), api.ErrForm)
	fails("the source's", with(t, map[int]string{0: super(0, c)}), api.ErrKind)
	small := made(t, size(c.G)-1)
	for at := range small.Len() {
		data, _ := d.Read(at)
		put(t, small, at, data)
	}
	fails("small", small, api.ErrRange)
	put(t, small, 1, sector.Zero())
	put(t, small, 2, sector.Zero())
	fails("small, without starts", small, api.ErrRange)
	put(t, small, 0, super(0, c))
	fails("small, and the source's", small, api.ErrKind)
}

// P19.2: the errors of Open behind these: the starts must be there; and when the start is counted, the epoch.
func TestOpenRecords(t *testing.T) {
	zero, long := sector.Zero(), strings.Repeat("\x00", 58)
	fails := func(what string, sectors map[int]string, want api.Errno, starts bool) {
		t.Helper()
		openFails(t, what, with(t, sectors), want, starts, false)
	}
	fails("nothing", map[int]string{1: zero, 2: zero, 3: zero, 4: zero, 11: zero}, api.ErrNone, false)
	fails("starts of another kind", map[int]string{1: commitSector(40, 1, long[:32]), 2: zero}, api.ErrNone, false)
	for n := 8; n < 59; n++ {
		if n != 24 {
			fails("starts of another length", map[int]string{1: raw(kindBoot, num(8, 41)+long[8:n]), 3: zero, 4: zero}, api.ErrForm, false)
		}
		if n != 48 {
			fails("an epoch of another length", map[int]string{3: raw(kindCommit, num(8, 14)+long[8:n]), 11: zero}, api.ErrForm, true)
		}
	}
	fails("no epoch", map[int]string{3: zero, 4: zero, 11: zero}, api.ErrNone, true)
	fails("an epoch of another kind", map[int]string{3: bootSector(1, 1, 1), 4: bootSector(1, 1, 1)}, api.ErrNone, true)
}

// P19.2: the errors of Open behind the start and the undoing: each node must be there, and the root must be the epoch's.
func TestOpenTree(t *testing.T) {
	g := usual().G
	for node := range count(g) {
		// What the try wrote is undone, and not asked for.
		if node == 4 {
			continue
		}
		at := 6 + g.N + node
		openFails(t, "no node", with(t, map[int]string{at: sector.Zero(), 4: commitSector(13, 7, strings.Repeat("o", 32))}), api.ErrSum, true, true)
		openFails(t, "another kind", with(t, map[int]string{at: bootSector(1, 1, 1)}), api.ErrKind, true, true)
		openFails(t, "another node", with(t, map[int]string{at: nodeSector(node+1, strings.Repeat("o", 32))}), api.ErrForm, true, true)
	}
	openFails(t, "another root", with(t, map[int]string{4: commitSector(13, 7, strings.Repeat("o", 32))}), api.ErrRoot, true, true)
	openFails(t, "another root", with(t, map[int]string{6 + g.N + count(g) - 1: nodeSector(count(g)-1, strings.Repeat("o", 32))}), api.ErrRoot, true, true)
}

// P19.2: one sector of each slot is enough, and of a try whose entries are broken the part ahead is undone.
func TestOpenHalf(t *testing.T) {
	g, zero, r := usual().G, sector.Zero(), root(usual().G, contents(5, 1))
	for what, c := range map[string]struct {
		sectors map[int]string
		want    State
	}{
		"first":  {map[int]string{2: zero, 4: zero, 3: commitSector(12, 6, r)}, State{Boot: 31, Session: 77, Epoch: 6, Root: r}},
		"second": {map[int]string{1: zero, 3: zero}, State{Boot: 100, Session: 88, Epoch: 7, Root: r}},
		"two":    {map[int]string{areaAt(g, 4): zero, 6 + g.N + 4: nodeSector(4, r)}, State{Boot: 31, Session: 77, Epoch: 7, Root: r}},
	} {
		d := with(t, c.sectors)
		m := &model{c: usual(), d: d.Copy()}
		v, why := Open(d)
		if v == nil || why != m.start() {
			t.Fatalf("%s: Open = %v %d", what, v, why)
		}
		same(t, what, d, m.d)
		if s := v.State(); s != c.want {
			t.Errorf("%s: State = %+v, want %+v", what, s, c.want)
		}
		if s, why := v.Read(4); s != contents(5, 1)[4] || why != api.OK {
			t.Errorf("%s: Read = %q %d", what, s, why)
		}
	}
}

// P19.2: the error of each write and flush ends Open: those of the start, and those of the undoing.
func TestOpenFuse(t *testing.T) {
	for fuse := range 10 {
		d, m := laid(t)
		d.Fuse(fuse)
		m.d.Fuse(fuse)
		v, why := Open(d)
		if want := m.start(); why != want || (v == nil) != (fuse < 8) {
			t.Fatalf("fuse %d: Open = %v %d, want %d", fuse, v, why, want)
		}
		same(t, "fuse", d, m.d)
	}
}

// P19.3: Read returns what was, while a try writes, and then what is; a sector that there is not, ahead of the disk's errors; the disk's also where an entry would tell.
func TestRead(t *testing.T) {
	for _, c := range few()[1:] {
		v, d, m := started(t, c)
		for range 2 {
			for _, i := range []int{-1, -6, c.G.N, c.G.N + 1, 128, 1 << 32, -1 << 32, math.MaxInt, math.MaxInt - 6, math.MinInt} {
				s, why := v.Read(i)
				if s != "" {
					t.Errorf("Read(%d) = %q", i, s)
				}
				did(t, "Read", why, api.ErrRange, v, d, m)
			}
			if d.Down() {
				break
			}
			begins(t, v, d, m, 1, strings.Repeat("r", 32))
			applies(t, v, d, m, 0, sector.Fill(1))
			if s, why := v.Read(0); s != contents(1, 1)[0] || why != api.OK {
				t.Errorf("Read = %q %d", s, why)
			}
			if s, why := d.Read(6); s != sector.Fill(1) || why != api.OK {
				t.Errorf("the disk has %q %d", s, why)
			}
			d.Crash()
			m.d.Crash()
			if s, why := v.Read(0); s != "" || why != api.ErrDown {
				t.Errorf("Read = %q %d", s, why)
			}
		}
	}
}

// P19.3: a greater session is saved, in the other sector of the slot; one that is not greater costs nothing, and needs no disk.
func TestSession(t *testing.T) {
	v, d, m := started(t, usual())
	most := uint64(0)
	for _, n := range []uint64{0, 1, 1, 0, 5, 4, 1 << 32, 5, 1<<32 + 1, 1 << 63, 1<<63 - 1, math.MaxUint64, 0, math.MaxUint64} {
		done := d.Done()
		if n > most {
			most, done = n, done+2
		}
		learns(t, v, d, m, n)
		if s := v.State(); s.Session != most || d.Done() != done {
			t.Errorf("Session(%d): State = %+v, done %d, want %d", n, s, d.Done(), done)
		}
	}
	v = opened(t, d, m)
	if s := v.State(); s.Session != math.MaxUint64 || s.Boot != 2 {
		t.Errorf("State = %+v", s)
	}
	d.Crash()
	m.d.Crash()
	learns(t, v, d, m, math.MaxUint64)
	v, d, m = started(t, usual())
	d.Crash()
	m.d.Crash()
	learns(t, v, d, m, 0)
	learns(t, v, d, m, 1)
	if s := v.State(); s.Session != 0 {
		t.Errorf("State = %+v", s)
	}
}

// P19.3: a session may be learned within a try, which goes on.
func TestSessionTry(t *testing.T) {
	v, d, m := started(t, usual())
	data := map[int]string{0: sector.Fill(1), 3: sector.Fill(2)}
	begins(t, v, d, m, 3, root(m.c.G, changed(m, data)))
	applies(t, v, d, m, 0, data[0])
	learns(t, v, d, m, 6)
	applies(t, v, d, m, 3, data[3])
	learns(t, v, d, m, 7)
	finishes(t, v, d, m)
	learns(t, v, d, m, 8)
	if s, want := opened(t, d, m).State(), (State{Boot: 2, Session: 8, Epoch: 3, Root: root(m.c.G, m.image)}); s != want {
		t.Errorf("State = %+v, want %+v", s, want)
	}
}

// P19.4: the errors of Begin, in their order: a try, an epoch that can not be, no digest. They count no try.
func TestBeginErrors(t *testing.T) {
	v, d, m := started(t, usual())
	reaches(t, v, d, m, 4, map[int]string{2: sector.Fill(1)})
	right := strings.Repeat("r", 32)
	for range 2 {
		for _, epoch := range []uint64{0, 1, 3, 4, 101, 102, 1 << 32, 1<<32 + 5, api.MaxEpoch, 1 << 63, math.MaxUint64} {
			for _, root := range []string{right, "", "x"} {
				did(t, "Begin", v.Begin(epoch, root), api.ErrEpoch, v, d, m)
			}
		}
		for _, root := range []string{"", "x", right[1:], right + "r", right + right} {
			did(t, "Begin", v.Begin(5, root), api.ErrLength, v, d, m)
			did(t, "Begin", v.Begin(100, root), api.ErrLength, v, d, m)
		}
		begins(t, v, d, m, 100, right)
		for _, epoch := range []uint64{0, 4, 5, 100, 101} {
			for _, root := range []string{right, ""} {
				did(t, "Begin", v.Begin(epoch, root), api.ErrState, v, d, m)
			}
		}
		if s := v.State(); s.Try != 100 || s.Undo != 0 || s.Epoch != 4 {
			t.Errorf("State = %+v", s)
		}
		// The tag tells how many tries were counted.
		applies(t, v, d, m, 0, sector.Fill(3))
		goesBack(t, v, d, m)
	}
	// Begin needs no disk.
	d.Crash()
	m.d.Crash()
	begins(t, v, d, m, 5, right)
}

// P19.4: there are at most 2^20 - 1 tries a start; the last of them has this number in its tag. Behind another start there are as many again.
func TestBeginFull(t *testing.T) {
	c := few()[1]
	v, d, m := started(t, c)
	right := strings.Repeat("r", 32)
	for n := range 1<<20 - 2 {
		if v.Begin(1, right) != api.OK || v.Back() != api.OK {
			t.Fatalf("try %d", n)
		}
	}
	m.tries = 1<<20 - 2
	begins(t, v, d, m, 1, right)
	did(t, "Begin", v.Begin(1, right), api.ErrState, v, d, m)
	applies(t, v, d, m, 0, sector.Fill(1))
	if head, _ := d.Kept(areaAt(c.G, 0)); head != undoSector(0, api.Entry{Tag: 1<<20 + 1<<20 - 1, Epoch: 1, Place: 6, Old: contents(1, 1)[0]}) {
		t.Errorf("the head is %q", head)
	}
	goesBack(t, v, d, m)
	for range 2 {
		did(t, "Begin", v.Begin(1, right), api.ErrFull, v, d, m)
		did(t, "Begin", v.Begin(2, right), api.ErrFull, v, d, m)
	}
	did(t, "Begin", v.Begin(3, right), api.ErrEpoch, v, d, m)
	did(t, "Begin", v.Begin(1, "x"), api.ErrLength, v, d, m)
	v = opened(t, d, m)
	reaches(t, v, d, m, 1, map[int]string{0: sector.Fill(2)})
}

// P19.4: the errors of Apply, in their order: no try, no such sector, no sector, the disk's.
func TestApplyErrors(t *testing.T) {
	v, d, m := started(t, usual())
	places := []int{-1, -6, 5, 6, 11, 128, 1 << 32, -1 << 32, math.MaxInt, math.MaxInt - 6, math.MinInt}
	texts := []string{"", "x", sector.Zero()[1:], sector.Zero() + "\x00"}
	for _, i := range append(places, 0) {
		for _, data := range append(texts, sector.Zero()) {
			did(t, "Apply", v.Apply(i, data), api.ErrState, v, d, m)
		}
	}
	begins(t, v, d, m, 1, strings.Repeat("r", 32))
	for range 2 {
		for _, i := range places {
			for _, data := range append(texts, sector.Zero()) {
				did(t, "Apply", v.Apply(i, data), api.ErrRange, v, d, m)
			}
		}
		for _, data := range texts {
			did(t, "Apply", v.Apply(0, data), api.ErrLength, v, d, m)
		}
		d.Crash()
		m.d.Crash()
	}
	applies(t, v, d, m, 0, sector.Zero())
}

// P19.4: a sector is saved ahead of its first write in a try, whatever is written, and not ahead of the others: four writes and flushes, and one.
func TestApply(t *testing.T) {
	for _, c := range few() {
		v, d, m := started(t, c)
		begins(t, v, d, m, 1, strings.Repeat("r", 32))
		n := 0
		for _, i := range []int{c.G.N - 1, 0, c.G.N / 2, 0} {
			if n == c.G.Undo {
				break
			}
			first := true
			for _, e := range m.try.entries {
				first = first && e.Place != 6+i
			}
			for _, data := range []string{contents(c.G.N, 1)[i], sector.Fill(byte(i)), sector.Fill(9)} {
				want := d.Done() + 1
				if first {
					want, n = want+4, n+1
				}
				first = false
				applies(t, v, d, m, i, data)
				if s := v.State(); d.Done() != want || s.Undo != n || s.Try != 1 || s.Epoch != 0 {
					t.Fatalf("%v: done %d, want %d; State = %+v, want %d", c, d.Done(), want, s, n)
				}
			}
		}
	}
}

// P19.4: without room for another entry, sectors that have one can be written still, and others can not.
func TestApplyUndo(t *testing.T) {
	c := tight()
	c.G.Undo = 2
	v, d, m := started(t, c)
	begins(t, v, d, m, 1, strings.Repeat("r", 32))
	applies(t, v, d, m, 3, sector.Fill(1))
	applies(t, v, d, m, 1, sector.Fill(2))
	for range 2 {
		for _, i := range []int{0, 2} {
			did(t, "Apply", v.Apply(i, sector.Fill(3)), api.ErrUndo, v, d, m)
		}
		did(t, "Apply", v.Apply(4, sector.Fill(3)), api.ErrRange, v, d, m)
		did(t, "Apply", v.Apply(0, "x"), api.ErrLength, v, d, m)
		applies(t, v, d, m, 1, sector.Fill(4))
		applies(t, v, d, m, 3, sector.Fill(5))
	}
	goesBack(t, v, d, m)
	begins(t, v, d, m, 1, strings.Repeat("r", 32))
	applies(t, v, d, m, 0, sector.Fill(1))
}

// P19.5: Finish writes the nodes that differ, and those alone, and makes the epoch the volume's. The last data of a sector counts; a sector that is what it was has no part in it.
func TestFinish(t *testing.T) {
	for _, c := range few()[1:] {
		v, d, m := started(t, c)
		for epoch := uint64(1); epoch <= min(c.Last, 8); epoch++ {
			now := slices.Clone(m.image)
			var order []int
			for n := range epoch % 4 {
				i := int(epoch*7+n*3) % c.G.N
				now[i] = sector.Mix(epoch<<32 + n)
				order = append(order, i)
			}
			begins(t, v, d, m, epoch, root(c.G, now))
			for _, i := range order {
				applies(t, v, d, m, i, sector.Fill(77))
				applies(t, v, d, m, i, now[i])
			}
			if epoch == 3 {
				applies(t, v, d, m, 0, now[0])
			}
			finishes(t, v, d, m)
			if s, want := v.State(), (State{Boot: 1, Epoch: epoch, Root: root(c.G, now)}); s != want {
				t.Fatalf("%v: State = %+v, want %+v", c, s, want)
			}
			for i, data := range now {
				if s, why := v.Read(i); s != data || why != api.OK {
					t.Fatalf("Read(%d) = %q %d", i, s, why)
				}
			}
		}
		opened(t, d, m)
	}
}

// P19.5: a try without a sector whose root is the volume's flushes, and writes but the record.
func TestFinishNothing(t *testing.T) {
	v, d, m := started(t, usual())
	done := d.Done()
	begins(t, v, d, m, 9, root(m.c.G, m.image))
	finishes(t, v, d, m)
	if s := v.State(); d.Done() != done+3 || s.Epoch != 9 {
		t.Errorf("done %d, State = %+v", d.Done()-done, s)
	}
	begins(t, v, d, m, 10, root(m.c.G, m.image))
	finishes(t, v, d, m)
	if s, _ := d.Kept(3); s != commitSector(2, 10, root(m.c.G, m.image)) {
		t.Errorf("the record is %q", s)
	}
	if s, _ := d.Kept(4); s != commitSector(1, 9, root(m.c.G, m.image)) {
		t.Errorf("the record is %q", s)
	}
}

// P19.5: Finish without a try, and of a try whose root is another one, ahead of the disk's errors: it is still there, and goes on.
func TestFinishErrors(t *testing.T) {
	v, d, m := started(t, usual())
	did(t, "Finish", v.Finish(), api.ErrState, v, d, m)
	data := map[int]string{1: sector.Fill(1), 4: sector.Fill(2)}
	begins(t, v, d, m, 2, root(m.c.G, changed(m, data)))
	did(t, "Finish", v.Finish(), api.ErrRoot, v, d, m)
	applies(t, v, d, m, 1, data[1])
	did(t, "Finish", v.Finish(), api.ErrRoot, v, d, m)
	applies(t, v, d, m, 4, sector.Fill(3))
	did(t, "Finish", v.Finish(), api.ErrRoot, v, d, m)
	for _, x := range []*disk.Disk{d, m.d} {
		x.Crash()
	}
	did(t, "Finish", v.Finish(), api.ErrRoot, v, d, m)
	for _, x := range []*disk.Disk{d, m.d} {
		x.Up()
	}
	applies(t, v, d, m, 1, data[1])
	applies(t, v, d, m, 4, data[4])
	finishes(t, v, d, m)
	if s := v.State(); s.Epoch != 2 || s.Try != 0 {
		t.Errorf("State = %+v", s)
	}
	did(t, "Finish", v.Finish(), api.ErrState, v, d, m)
}

// P19.5: Finish that has no room for a node's entry: what was written ahead of that stays, and the try; Back undoes all of it.
func TestFinishUndo(t *testing.T) {
	for room := 1; room <= 8; room++ {
		c := tight()
		c.G.Undo = room
		v, d, m := started(t, c)
		data := map[int]string{1: sector.Fill(1)}
		begins(t, v, d, m, 2, root(c.G, changed(m, data)))
		applies(t, v, d, m, 1, data[1])
		if want := m.finish(); (room < 4) != (want == api.ErrUndo) {
			t.Fatalf("room %d: %d", room, want)
		} else if want == api.OK {
			did(t, "Finish", v.Finish(), want, v, d, m)
			continue
		}
		for range 2 {
			did(t, "Finish", v.Finish(), api.ErrUndo, v, d, m)
			if s := v.State(); s.Try != 2 || s.Undo != room || s.Epoch != 0 {
				t.Fatalf("State = %+v", s)
			}
			// Once more, the nodes that have an entry are written again.
			m.finish()
			did(t, "Finish", v.Finish(), api.ErrUndo, v, d, m)
			m.finish()
		}
		did(t, "Finish", v.Finish(), api.ErrUndo, v, d, m)
		goesBack(t, v, d, m)
		opened(t, d, m)
		if s, _ := d.Kept(6 + 1); s != contents(4, 1)[1] {
			t.Errorf("the sector is %q", s)
		}
	}
}

// P19.5: Back without a try does nothing, also when the disk is down; of a try without entries it ends the try alone; otherwise all is as it was.
func TestBack(t *testing.T) {
	for _, c := range few() {
		v, d, m := started(t, c)
		goesBack(t, v, d, m)
		begins(t, v, d, m, 1, strings.Repeat("r", 32))
		done := d.Done()
		goesBack(t, v, d, m)
		if s := v.State(); d.Done() != done || s.Try != 0 {
			t.Errorf("done %d, State = %+v", d.Done()-done, s)
		}
		begins(t, v, d, m, 1, strings.Repeat("r", 32))
		for n := range min(c.G.N, c.G.Undo) {
			applies(t, v, d, m, n, sector.Fill(1))
		}
		goesBack(t, v, d, m)
		for i, want := range contents(c.G.N, 1) {
			if s, _ := d.Kept(6 + i); s != want {
				t.Fatalf("sector %d is %q, want %q", i, s, want)
			}
		}
		if s, _ := d.Kept(areaAt(c.G, 0)); s != sector.Zero() {
			t.Errorf("the head is %q", s)
		}
		did(t, "Finish", v.Finish(), api.ErrState, v, d, m)
		d.Crash()
		m.d.Crash()
		goesBack(t, v, d, m)
		begins(t, v, d, m, 1, strings.Repeat("r", 32))
		goesBack(t, v, d, m)
	}
}

// P19.5: what was applied in a try that is over has no part in the next one.
func TestBackAgain(t *testing.T) {
	v, d, m := started(t, usual())
	begins(t, v, d, m, 1, strings.Repeat("r", 32))
	applies(t, v, d, m, 0, sector.Fill(1))
	goesBack(t, v, d, m)
	reaches(t, v, d, m, 1, map[int]string{2: sector.Fill(2)})
	if s, why := v.Read(0); s != contents(5, 1)[0] || why != api.OK {
		t.Errorf("Read = %q %d", s, why)
	}
}

// P19.6: a tree is its caller's, and stays that of its epoch.
func TestTree(t *testing.T) {
	v, d, m := started(t, usual())
	old := v.Tree()
	if old.Geom() != m.c.G {
		t.Errorf("Geom = %v", old.Geom())
	}
	if why := old.Set(1, sector.Fill(9)); why != api.OK {
		t.Fatalf("Set = %d", why)
	}
	agree(t, "Set", v, d, m)
	old = v.Tree()
	begins(t, v, d, m, 1, root(m.c.G, changed(m, map[int]string{1: sector.Fill(1)})))
	v.Tree().Set(2, sector.Fill(9))
	applies(t, v, d, m, 1, sector.Fill(1))
	v.Tree().Set(3, sector.Fill(9))
	finishes(t, v, d, m)
	if !slices.Equal(old.All(), digests(m.c.G, contents(5, 1))) {
		t.Error("the tree of the former epoch has changed")
	}
	d.Crash()
	m.d.Crash()
	agree(t, "down", v, d, m)
}

// P19.3, P19.4, P19.5, P19.6: a volume that is not there, and one that no disk has.
func TestNone(t *testing.T) {
	for _, v := range []*Volume{nil, {}} {
		s, why := v.Read(0)
		l := []api.Errno{why, v.Session(0), v.Session(1), v.Begin(1, strings.Repeat("r", 32)), v.Apply(0, sector.Zero()), v.Finish(), v.Back()}
		want := slices.Repeat([]api.Errno{api.ErrNil}, 7)
		if v != nil {
			want = []api.Errno{api.ErrRange, api.OK, api.ErrNil, api.ErrEpoch, api.ErrState, api.ErrState, api.OK}
		}
		if !slices.Equal(l, want) || s != "" {
			t.Errorf("%v, want %v", l, want)
		}
		if v.State() != (State{}) || v.Config() != (api.Config{}) || v.Tree() != nil {
			t.Error("State")
		}
	}
}

// P19.3, P19.4, P19.5: each write and flush of each call may fail. What was written ahead of it stays written, and what the volume knows is what was flushed. The call may be made again when the disk is up, and Open undoes what there is.
func TestFuses(t *testing.T) {
	one, other := map[int]string{1: sector.Fill(1), 4: sector.Fill(2)}, map[int]string{0: sector.Fill(3), 1: sector.Fill(4)}
	for fuse := 0; ; fuse++ {
		v, d, m := started(t, usual())
		first := root(m.c.G, changed(m, one))
		both := changed(m, one)
		both[0], both[1] = other[0], other[1]
		calls := []func(){
			func() { learns(t, v, d, m, 3) },
			func() { begins(t, v, d, m, 2, first) },
			func() { applies(t, v, d, m, 1, one[1]) },
			func() { goesBack(t, v, d, m) },
			func() { begins(t, v, d, m, 2, first) },
			func() { applies(t, v, d, m, 4, one[4]) },
			func() { learns(t, v, d, m, 4) },
			func() { applies(t, v, d, m, 1, one[1]) },
			func() { finishes(t, v, d, m) },
			func() { begins(t, v, d, m, 3, root(m.c.G, both)) },
			func() { applies(t, v, d, m, 1, other[1]) },
			func() { applies(t, v, d, m, 0, other[0]) },
			func() { finishes(t, v, d, m) },
		}
		d.Fuse(fuse)
		m.d.Fuse(fuse)
		for _, call := range calls {
			if call(); d.Down() {
				break
			}
		}
		if !d.Down() {
			if s := v.State(); fuse < 60 || s.Epoch != 3 {
				t.Errorf("%d writes and flushes, State = %+v", fuse, s)
			}
			return
		}
		d.Up()
		m.d.Up()
		opened(t, d, m)
	}
}

// P19.1 to P19.6: long rows of calls by chance, with crashes of which anything is kept, are what the document says, write by write.
func TestRows(t *testing.T) {
	r := rand.New(rand.NewSource(19))
	for _, c := range append(few(), tight()) {
		c.Last = max(c.Last, 100000)
		for range 3 {
			v, d, m := started(t, c)
			var aim []string
			for range 150 {
				if r.Intn(5) == 0 {
					fuse := r.Intn(20)
					d.Fuse(fuse)
					m.d.Fuse(fuse)
				}
				switch n := r.Intn(14); {
				case m.try == nil && n < 9:
					aim = slices.Clone(m.image)
					for range r.Intn(5) {
						aim[r.Intn(c.G.N)] = sector.Mix(r.Uint64())
					}
					begins(t, v, d, m, m.epoch+1+uint64(r.Intn(3)), root(c.G, aim))
				case m.try == nil && n < 11:
					goesBack(t, v, d, m)
				case n < 8:
					i := r.Intn(c.G.N)
					for at := range c.G.N {
						if m.try.image[(i+at)%c.G.N] != aim[(i+at)%c.G.N] {
							i = (i + at) % c.G.N
							break
						}
					}
					data := aim[i]
					if r.Intn(12) == 0 {
						data = sector.Mix(r.Uint64())
					}
					applies(t, v, d, m, i, data)
				case n < 11:
					finishes(t, v, d, m)
				case n < 12:
					goesBack(t, v, d, m)
				case n < 13:
					learns(t, v, d, m, m.session+uint64(r.Intn(3)))
				}
				if d.Down() || r.Intn(15) == 0 {
					keep := chance(r, 300)
					for _, x := range []*disk.Disk{d, m.d} {
						x.Crash(keep...)
						x.Up()
					}
					v = opened(t, d, m)
				}
			}
		}
	}
}

// P19.4, P19.5: the document's example.
func TestExample(t *testing.T) {
	v, d, m := started(t, usual())
	old := contents(5, 1)[2]
	begins(t, v, d, m, 1, root(m.c.G, changed(m, map[int]string{2: sector.Fill(5)})))
	applies(t, v, d, m, 2, sector.Fill(5))
	if s, why := v.Read(2); s != old || why != api.OK {
		t.Errorf("Read = %q %d", s, why)
	}
	finishes(t, v, d, m)
	if s, why := v.Read(2); s != sector.Fill(5) || why != api.OK {
		t.Errorf("Read = %q %d", s, why)
	}
}
