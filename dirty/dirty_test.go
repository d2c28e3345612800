package dirty

import (
	"encoding/binary"
	"math"
	"math/rand"
	"slices"
	"strings"
	"testing"

	"pentimento/api"
	"pentimento/bits"
	"pentimento/crc"
	"pentimento/disk"
	"pentimento/rec"
	"pentimento/sector"
)

// outside are numbers that no set has.
var outside = []int{-1, -2, -64, -128, 128, 129, 192, 255, 1 << 32, 1<<32 + 5, -1 << 32, math.MaxInt, math.MinInt}

// epochs are numbers of epochs, and others that a map can have.
var epochs = []uint64{0, 1, 2, 255, 256, 1<<32 - 1, 1 << 32, api.MaxEpoch - 1, api.MaxEpoch, api.MaxEpoch + 1, 1 << 63, math.MaxUint64}

// made returns a disk with n sectors.
func made(t *testing.T, n int) *disk.Disk {
	t.Helper()
	d, why := disk.New(n)
	if why != api.OK {
		t.Fatalf("disk.New(%d) = %d", n, why)
	}
	return d
}

// sets are some sets: none, all, the words' ends, and others by chance.
func sets() []bits.Set {
	out := []bits.Set{{}, {1, 0}, {0, 1}, {1 << 63, 0}, {0, 1 << 63}, {math.MaxUint64, 0}, {0, math.MaxUint64}, {math.MaxUint64, math.MaxUint64}}
	r := rand.New(rand.NewSource(11))
	for range 12 {
		out = append(out, bits.Set{r.Uint64(), r.Uint64()})
	}
	return out
}

// maps are some maps, of all pairs of these sets.
func maps() []Map {
	var out []Map
	for i, now := range sets() {
		for j, frozen := range sets() {
			out = append(out, Map{Now: now, Frozen: frozen, Open: epochs[(i+j)%len(epochs)]})
		}
	}
	return out
}

// bodyOf is the body of a map's record, its words in bytes by the library.
func bodyOf(m Map) string {
	var b []byte
	for _, w := range []uint64{m.Now[0], m.Now[1], m.Frozen[0], m.Frozen[1], m.Open} {
		b = binary.BigEndian.AppendUint64(b, w)
	}
	return string(b)
}

// raw is the sector of a record with this body, a map's or not.
func raw(t *testing.T, kind int, body string) string {
	t.Helper()
	s, why := rec.Make(kind, body)
	if why != api.OK {
		t.Fatalf("rec.Make(%d, %q) = %d", kind, body, why)
	}
	return s
}

// put writes a sector.
func put(t *testing.T, d *disk.Disk, at int, data string) {
	t.Helper()
	if why := d.Write(at, data); why != api.OK {
		t.Fatalf("Write(%d) = %d", at, why)
	}
}

// saves saves a map that must be saved.
func saves(t *testing.T, d *disk.Disk, m Map) {
	t.Helper()
	if why := Save(d, m); why != api.OK {
		t.Fatalf("Save(%x) = %d", m, why)
	}
}

// loads tells if Load does not return this map.
func loads(t *testing.T, d *disk.Disk, want Map) {
	t.Helper()
	if m, why := Load(d); m != want || why != api.OK {
		t.Errorf("Load = %x %d, want %x", m, why, want)
	}
}

// fails tells if Load does not return this error, and nothing beside it.
func fails(t *testing.T, d *disk.Disk, what string, want api.Errno) {
	t.Helper()
	if m, why := Load(d); m != (Map{}) || why != want {
		t.Errorf("%s: Load = %x %d, want %d", what, m, why, want)
	}
}

// P11.1: Mark adds each number to Now, be it there or not, and to nothing else; the map itself is as it was.
func TestMark(t *testing.T) {
	for _, m := range maps() {
		was := m
		for i := range 128 {
			want := m
			want.Now[i/64] |= 1 << (i % 64)
			if got, why := m.Mark(i); got != want || why != api.OK {
				t.Fatalf("%x.Mark(%d) = %x %d, want %x", m, i, got, why, want)
			}
		}
		for _, i := range outside {
			if got, why := m.Mark(i); got != (Map{}) || why != api.ErrRange {
				t.Errorf("%x.Mark(%d) = %x %d", m, i, got, why)
			}
		}
		if m != was {
			t.Errorf("Mark has changed %x to %x", was, m)
		}
	}
}

// P11.1: Freeze, Merge and Close, of all kinds of maps; the map itself is as it was.
func TestChanges(t *testing.T) {
	for _, m := range maps() {
		was := m
		for _, epoch := range epochs {
			if got := m.Freeze(epoch); got != (Map{Frozen: m.Now, Open: epoch}) {
				t.Errorf("%x.Freeze(%d) = %x", m, epoch, got)
			}
		}
		both := bits.Set{m.Now[0] | m.Frozen[0], m.Now[1] | m.Frozen[1]}
		if got := m.Merge(); got != (Map{Now: both}) {
			t.Errorf("%x.Merge() = %x", m, got)
		}
		if got := m.Close(); got != (Map{Now: m.Now}) {
			t.Errorf("%x.Close() = %x", m, got)
		}
		if m != was {
			t.Errorf("%x was changed to %x", was, m)
		}
	}
}

// marked returns the map with i marked.
func marked(t *testing.T, m Map, i int) Map {
	t.Helper()
	m, why := m.Mark(i)
	if why != api.OK {
		t.Fatalf("Mark(%d) = %d", i, why)
	}
	return m
}

// P11.1: the document's example, and what it is with Close in place of Merge, and with a Freeze more.
func TestExample(t *testing.T) {
	m := marked(t, marked(t, Map{}, 3).Freeze(1), 4)
	if got := m.Merge(); !slices.Equal(got.Now.List(), []int{3, 4}) || got.Frozen.Count() != 0 || got.Open != 0 {
		t.Errorf("Merge: %x", got)
	}
	if got := m.Close(); !slices.Equal(got.Now.List(), []int{4}) || got.Frozen.Count() != 0 || got.Open != 0 {
		t.Errorf("Close: %x", got)
	}
	if got := m.Freeze(2); got.Now.Count() != 0 || !slices.Equal(got.Frozen.List(), []int{4}) || got.Open != 2 {
		t.Errorf("Freeze: %x", got)
	}
}

// P11.2: Save writes the record to sector 5, and to no other one, and flushes, also what was pending ahead of it.
func TestSave(t *testing.T) {
	for _, m := range maps() {
		d := made(t, 8)
		for at := range 8 {
			put(t, d, at, sector.Fill(byte(at+1)))
		}
		saves(t, d, m)
		if d.Done() != 10 || len(d.Waits()) != 0 || d.Down() {
			t.Errorf("Save(%x): done %d, waits %d", m, d.Done(), len(d.Waits()))
		}
		for at := range 8 {
			want := sector.Fill(byte(at + 1))
			if at == 5 {
				want = raw(t, rec.Dirty, bodyOf(m))
			}
			if s, why := d.Kept(at); s != want || why != api.OK {
				t.Errorf("Save(%x): sector %d is %q, want %q", m, at, s, want)
			}
		}
	}
}

// P11.2: the bytes of a record, told one by one.
func TestSector(t *testing.T) {
	d := made(t, 6)
	saves(t, d, Map{Now: bits.Set{2, 1 << 63}, Frozen: bits.Set{1 << 8, 3}, Open: 0x10203})
	want := "\x05\x28" +
		"\x00\x00\x00\x00\x00\x00\x00\x02\x80\x00\x00\x00\x00\x00\x00\x00" +
		"\x00\x00\x00\x00\x00\x00\x01\x00\x00\x00\x00\x00\x00\x00\x00\x03" +
		"\x00\x00\x00\x00\x00\x01\x02\x03" + strings.Repeat("\x00", 18)
	want += string(binary.BigEndian.AppendUint32(nil, crc.Sum([]byte(want))))
	if s, _ := d.Kept(5); s != want {
		t.Errorf("sector 5 is %q, want %q", s, want)
	}
}

// P11.2: Load reads the record that is in sector 5, pending or flushed, and writes nothing.
func TestLoad(t *testing.T) {
	for _, m := range maps() {
		d := made(t, 7)
		put(t, d, 5, raw(t, rec.Dirty, bodyOf(m)))
		put(t, d, 4, raw(t, rec.Dirty, strings.Repeat("\x04", 40)))
		put(t, d, 6, raw(t, rec.Dirty, strings.Repeat("\x06", 40)))
		loads(t, d, m)
		d.Flush()
		loads(t, d, m)
		if d.Done() != 4 {
			t.Error("Load has written")
		}
	}
}

// P11.2: the disk's errors of both calls; what is rejected changes nothing.
func TestDiskErrors(t *testing.T) {
	m := Map{Now: bits.Set{1, 2}, Frozen: bits.Set{3, 4}, Open: 5}
	down := made(t, 6)
	saves(t, down, m)
	down.Crash()
	cases := []struct {
		d    *disk.Disk
		want api.Errno
	}{{nil, api.ErrNil}, {down, api.ErrDown}}
	for n := 1; n < 6; n++ {
		cases = append(cases, struct {
			d    *disk.Disk
			want api.Errno
		}{made(t, n), api.ErrRange})
	}
	for _, c := range cases {
		done := c.d.Done()
		fails(t, c.d, "no such sector", c.want)
		if why := Save(c.d, m); why != c.want {
			t.Errorf("Save = %d, want %d", why, c.want)
		}
		if c.d.Done() != done || len(c.d.Waits()) != 0 {
			t.Error("Save has changed a disk")
		}
	}
	down.Up()
	loads(t, down, m)
}

// P11.2: the errors of the write and of the flush. What was written ahead of a flush that failed is pending.
func TestSaveFuse(t *testing.T) {
	for fuse := range 3 {
		d := made(t, 6)
		d.Fuse(fuse)
		want := []api.Errno{api.ErrDown, api.ErrDown, api.OK}[fuse]
		if why := Save(d, Map{Open: 1}); why != want || d.Done() != fuse || d.Down() != (fuse < 2) {
			t.Errorf("fuse %d: Save = %d, done %d", fuse, why, d.Done())
		}
		if waits := d.Waits(); len(waits) != []int{0, 1, 0}[fuse] {
			t.Errorf("fuse %d: waits %v", fuse, waits)
		}
	}
}

// P11.2: the errors of rec.Open, each of them ahead of ErrForm for the length of the body.
func TestLoadRecord(t *testing.T) {
	for _, data := range []string{sector.Zero(), sector.Fill(5), sector.Fill(0xff)} {
		d := made(t, 6)
		put(t, d, 5, data)
		fails(t, d, "no record", api.ErrSum)
	}
	right := raw(t, rec.Dirty, bodyOf(Map{Now: bits.Set{1, 2}, Open: 3}))
	for i := range 64 {
		d := made(t, 6)
		b := []byte(right)
		b[i] ^= 0x10
		put(t, d, 5, string(b))
		fails(t, d, "a changed byte", api.ErrSum)
	}
	for _, n := range []int{0, 39, 40, 41, 58} {
		for kind := 1; kind <= 8; kind++ {
			if kind != rec.Dirty {
				d := made(t, 6)
				put(t, d, 5, raw(t, kind, strings.Repeat("\x01", n)))
				fails(t, d, "another kind", api.ErrKind)
			}
		}
	}
	for _, head := range []string{"\x00\x28", "\x09\x28", "\xff\x28", "\x05\x3b", "\x05\xff"} {
		d := made(t, 6)
		data := head + strings.Repeat("\x00", 58)
		put(t, d, 5, data+string(binary.BigEndian.AppendUint32(nil, crc.Sum([]byte(data)))))
		fails(t, d, "no kind, or no length", api.ErrForm)
	}
}

// P11.2: a body has 40 bytes, and none else is one.
func TestLoadLength(t *testing.T) {
	for n := range 59 {
		for _, c := range []string{"\x00", "\x01", "\xff"} {
			d := made(t, 6)
			put(t, d, 5, raw(t, rec.Dirty, strings.Repeat(c, n)))
			if n != 40 {
				fails(t, d, "a body of another length", api.ErrForm)
			} else if _, why := Load(d); why != api.OK {
				t.Errorf("Load of 40 bytes = %d", why)
			}
		}
	}
}

// P11.3: Load returns the map that was saved, Save behind Save, on disks of all sizes that have the sector.
func TestBack(t *testing.T) {
	for _, n := range []int{6, 7, 100, 1199, 1200} {
		d := made(t, n)
		for _, m := range maps() {
			saves(t, d, m)
			loads(t, d, m)
			loads(t, d, m)
		}
		d.Crash()
		d.Up()
		all := maps()
		loads(t, d, all[len(all)-1])
	}
}

// crash saves a map until the fuse ends, makes the disk go down with those writes kept, and come up.
func crash(d *disk.Disk, m Map, fuse int, keep ...bool) api.Errno {
	d.Fuse(fuse)
	why := Save(d, m)
	d.Crash(keep...)
	d.Up()
	return why
}

// P11.3: whatever was kept of a Save during which the disk failed, Load returns what it returned before, or the new map: that just if its write is kept. Other writes are pending too.
func TestCrash(t *testing.T) {
	old := Map{Now: bits.Set{1, 2}, Frozen: bits.Set{3, 4}, Open: 5}
	next := Map{Now: bits.Set{1 << 63, 7}, Frozen: bits.Set{0, 9}, Open: 6}
	for fuse := range 3 {
		for kept := range 1 << 4 {
			d := made(t, 8)
			saves(t, d, old)
			for _, at := range []int{4, 6, 7} {
				put(t, d, at, sector.Fill(byte(at)))
			}
			keep := make([]bool, 4)
			for i := range keep {
				keep[i] = kept>>i&1 == 1
			}
			if why := crash(d, next, fuse, keep...); (why == api.OK) != (fuse == 2) {
				t.Errorf("fuse %d: Save = %d", fuse, why)
			}
			if fuse == 2 || fuse == 1 && keep[3] {
				loads(t, d, next)
			} else {
				loads(t, d, old)
			}
		}
	}
}

// P11.3: so it is from the first Save on, when there is no map before it.
func TestCrashFirst(t *testing.T) {
	for fuse := range 3 {
		for _, keep := range []bool{false, true} {
			d := made(t, 6)
			crash(d, Map{Open: 9}, fuse, keep)
			if fuse == 2 || fuse == 1 && keep {
				loads(t, d, Map{Open: 9})
			} else {
				fails(t, d, "nothing saved", api.ErrSum)
			}
		}
	}
}

// P11.3: so it is in long rows of changes and Saves, through crashes at any of them.
func TestCrashes(t *testing.T) {
	r := rand.New(rand.NewSource(3))
	for range 100 {
		d, m := made(t, 6), Map{}
		saves(t, d, m)
		for step := range uint64(60) {
			next := marked(t, m, r.Intn(128))
			switch r.Intn(8) {
			case 0:
				next = m.Freeze(step)
			case 1:
				next = m.Merge()
			case 2:
				next = m.Close()
			}
			why := crash(d, next, r.Intn(4)-1, r.Intn(2) == 1)
			got, fault := Load(d)
			if fault != api.OK || got != next && (got != m || why == api.OK) {
				t.Fatalf("behind Save(%x) = %d: Load = %x %d, before %x", next, why, got, fault, m)
			}
			m = got
		}
	}
}
