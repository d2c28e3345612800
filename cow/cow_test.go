package cow

import (
	"encoding/binary"
	"hash/crc32"
	"math"
	"math/rand"
	"slices"
	"strings"
	"testing"

	"pentimento/api"
	"pentimento/disk"
	"pentimento/sector"
)

// wrong are geometries that are not valid.
var wrong = []api.Geom{
	{}, {N: 0, F: 2, Cow: 2, Undo: 1}, {N: -1, F: 2, Cow: 2, Undo: 1}, {N: 129, F: 2, Cow: 2, Undo: 1}, {N: math.MinInt, F: 2, Cow: 2, Undo: 1}, {N: math.MaxInt, F: 4, Cow: 2, Undo: 1},
	{N: 2, F: 1, Cow: 2, Undo: 1}, {N: 2, F: 0, Cow: 2, Undo: 1}, {N: 2, F: 5, Cow: 2, Undo: 1}, {N: 2, F: -2, Cow: 2, Undo: 1},
	{N: 2, F: 2, Cow: -1, Undo: 1}, {N: 2, F: 2, Cow: 65, Undo: 1}, {N: 2, F: 2, Cow: math.MaxInt, Undo: 1}, {N: 2, F: 2, Cow: math.MinInt, Undo: 1},
	{N: 2, F: 2, Cow: 2, Undo: 0}, {N: 2, F: 2, Cow: 2, Undo: 321}, {N: 2, F: 2, Cow: 2, Undo: -1},
}

// numbers are some that epochs can be.
var numbers = []uint64{0, 1, 2, 255, 256, 1<<20 + 1, 1<<32 - 1, 1 << 32, api.MaxEpoch - 1, api.MaxEpoch, api.MaxEpoch + 1, 1 << 63, math.MaxUint64 - 1, math.MaxUint64}

// few are some valid geometries with room: the least and the greatest, of several trees.
func few() []api.Geom {
	return []api.Geom{
		{N: 1, F: 2, Cow: 1, Undo: 1}, {N: 1, F: 4, Cow: 64, Undo: 3}, {N: 3, F: 2, Cow: 2, Undo: 5}, {N: 5, F: 2, Cow: 3, Undo: 16},
		{N: 9, F: 3, Cow: 7, Undo: 4}, {N: 17, F: 4, Cow: 17, Undo: 40}, {N: 128, F: 4, Cow: 2, Undo: 2}, {N: 128, F: 2, Cow: 64, Undo: 320},
	}
}

// behind is the location right behind the nodes: six sectors of the volume, the data sectors, and the nodes level by level.
func behind(g api.Geom) int {
	at, n := 6+g.N+g.N, g.N
	for n > 1 {
		n = (n + g.F - 1) / g.F
		at += n
	}
	return at
}

// headAt is the location of an entry's head; the sector that was saved follows.
func headAt(g api.Geom, k int) int { return behind(g) + 2*k }

// size is how many sectors the source's disk has.
func size(g api.Geom) int { return headAt(g, g.Cow) }

// content is a sector of which no other location has the like.
func content(at int) string {
	return strings.Repeat(string([]byte{byte(at >> 8), byte(at), 0xff, byte(at) ^ 0x5a}), 16)
}

// sum is the checksum by the library.
func sum(s string) uint32 { return crc32.Checksum([]byte(s), crc32.MakeTable(crc32.Castagnoli)) }

// raw is the sector of a record with this kind and body, an entry's head or not.
func raw(kind byte, body string) string {
	full := string([]byte{kind, byte(len(body))}) + body
	full += strings.Repeat("\x00", 60-len(full))
	return full + string(binary.BigEndian.AppendUint32(nil, sum(full)))
}

// body is that of an entry's head.
func body(epoch uint64, k, i int, check uint32) string {
	b := binary.BigEndian.AppendUint64(nil, epoch)
	b = binary.BigEndian.AppendUint32(b, uint32(k))
	b = binary.BigEndian.AppendUint32(b, uint32(i))
	return string(binary.BigEndian.AppendUint32(b, check))
}

// record is the sector of the head of entry k.
func record(k int, e api.Entry) string {
	return raw(8, body(e.Epoch, k, e.Place, sum(e.Old)))
}

// made returns a disk with n sectors.
func made(t *testing.T, n int) *disk.Disk {
	t.Helper()
	d, why := disk.New(n)
	if why != api.OK {
		t.Fatalf("disk.New(%d) = %d", n, why)
	}
	return d
}

// put writes a sector.
func put(t *testing.T, d *disk.Disk, at int, data string) {
	t.Helper()
	if why := d.Write(at, data); why != api.OK {
		t.Fatalf("Write(%d) = %d", at, why)
	}
}

// fresh returns a source's disk without entries, and two sectors more behind it. All is flushed.
func fresh(t *testing.T, g api.Geom) *disk.Disk {
	t.Helper()
	d := made(t, size(g)+2)
	for at := range d.Len() {
		put(t, d, at, content(at))
	}
	d.Flush()
	return d
}

// cut returns a disk with the first n sectors of another one.
func cut(t *testing.T, d *disk.Disk, n int) *disk.Disk {
	t.Helper()
	out := made(t, n)
	for at := range n {
		data, _ := d.Read(at)
		put(t, out, at, data)
	}
	out.Flush()
	return out
}

// fallen is a disk that is down.
func fallen(t *testing.T, d *disk.Disk) *disk.Disk {
	t.Helper()
	d = d.Copy()
	d.Crash()
	return d
}

// lay writes entries to the area, by the definition, and flushes.
func lay(t *testing.T, d *disk.Disk, g api.Geom, l ...api.Entry) {
	t.Helper()
	for k, e := range l {
		put(t, d, headAt(g, k), record(k, e))
		put(t, d, headAt(g, k)+1, e.Old)
	}
	d.Flush()
}

// kept tells if not all flushed sectors of two disks are alike.
func kept(t *testing.T, what string, d, want *disk.Disk) {
	t.Helper()
	for at := range want.Len() {
		a, _ := d.Kept(at)
		b, _ := want.Kept(at)
		if a != b {
			t.Fatalf("%s: sector %d is %q, want %q", what, at, a, b)
		}
	}
}

// same tells if a disk is not as another one, with its pending writes.
func same(t *testing.T, what string, d, want *disk.Disk) {
	t.Helper()
	if d.Done() != want.Done() || d.Down() != want.Down() || !slices.Equal(d.Waits(), want.Waits()) {
		t.Fatalf("%s: done %d, want %d; waits %v, want %v", what, d.Done(), want.Done(), d.Waits(), want.Waits())
	}
	kept(t, what, d, want)
}

// appends appends an entry, and tells if that does not return it.
func appends(t *testing.T, d *disk.Disk, g api.Geom, k int, want api.Entry) {
	t.Helper()
	if e, why := Append(d, g, k, want.Epoch, want.Place); e != want || why != api.OK {
		t.Fatalf("%v: Append(%d, %d, %d) = %v %d, want %v", g, k, want.Epoch, want.Place, e, why, want)
	}
}

// appendFails tells if Append does not return this error, and nothing beside it, or changes the disk.
func appendFails(t *testing.T, what string, d *disk.Disk, g api.Geom, k, i int, want api.Errno) {
	t.Helper()
	was := d.Copy()
	if e, why := Append(d, g, k, 4, i); e != (api.Entry{}) || why != want {
		t.Errorf("%s, %v: Append(%d, %d) = %v %d, want %d", what, g, k, i, e, why, want)
	}
	if d != nil {
		same(t, what, d, was)
	}
}

// scans tells if Scan does not return these entries, or changes the disk.
func scans(t *testing.T, what string, d *disk.Disk, g api.Geom, epoch uint64, want ...api.Entry) {
	t.Helper()
	was := d.Copy()
	if l, why := Scan(d, g, epoch); !slices.Equal(l, want) || why != api.OK {
		t.Fatalf("%s, %v: Scan(%d) = %v %d, want %v", what, g, epoch, l, why, want)
	}
	if d != nil {
		same(t, what, d, was)
	}
}

// scanFails tells if Scan does not return this error, and nothing beside it, or changes the disk.
func scanFails(t *testing.T, what string, d *disk.Disk, g api.Geom, epoch uint64, want api.Errno) {
	t.Helper()
	was := d.Copy()
	if l, why := Scan(d, g, epoch); len(l) != 0 || why != want {
		t.Errorf("%s, %v: Scan(%d) = %v %d, want %d", what, g, epoch, l, why, want)
	}
	if d != nil {
		same(t, what, d, was)
	}
}

// some is n entries of one epoch, of data sectors by chance, some of them perhaps more than once.
func some(r *rand.Rand, g api.Geom, n int, epoch uint64) []api.Entry {
	var out []api.Entry
	for range n {
		out = append(out, api.Entry{Epoch: epoch, Place: r.Intn(g.N), Old: sector.Mix(r.Uint64())})
	}
	return out
}

// P17.1: Append saves each data sector as entry k, and changes nothing else. All is flushed, also what was pending ahead of it.
func TestAppend(t *testing.T) {
	for _, g := range few() {
		for i := range g.N {
			d := fresh(t, g)
			k, epoch := i%g.Cow, numbers[i%len(numbers)]
			want := api.Entry{Epoch: epoch, Place: i, Old: content(6 + i)}
			put(t, d, 0, sector.Fill(1))
			done, expect := d.Done(), d.Copy()
			appends(t, d, g, k, want)
			if d.Done() != done+4 || len(d.Waits()) != 0 {
				t.Errorf("%v: done %d, waits %v", g, d.Done()-done, d.Waits())
			}
			put(t, expect, headAt(g, k), record(k, want))
			put(t, expect, headAt(g, k)+1, content(6+i))
			expect.Flush()
			kept(t, "Append", d, expect)
		}
	}
}

// P17.1: each entry k that there is, in any order; what was saved is what was written last, flushed or not.
func TestAppendPending(t *testing.T) {
	r := rand.New(rand.NewSource(15))
	for _, g := range few() {
		d := fresh(t, g)
		expect := d.Copy()
		for _, k := range r.Perm(g.Cow) {
			i := r.Intn(g.N)
			want := api.Entry{Epoch: r.Uint64(), Place: i, Old: sector.Mix(r.Uint64())}
			for _, data := range []string{sector.Fill(3), want.Old} {
				put(t, d, 6+i, data)
				put(t, expect, 6+i, data)
			}
			appends(t, d, g, k, want)
			put(t, expect, headAt(g, k), record(k, want))
			put(t, expect, headAt(g, k)+1, want.Old)
		}
		expect.Flush()
		kept(t, "Append", d, expect)
	}
}

// P17.1: the bytes of a head, told one by one.
func TestSector(t *testing.T) {
	g := api.Geom{N: 128, F: 2, Cow: 64, Undo: 320}
	d := fresh(t, g)
	put(t, d, 133, sector.Fill(0x61))
	appends(t, d, g, 63, api.Entry{Epoch: 0x1112131415161718, Place: 127, Old: sector.Fill(0x61)})
	want := "\x08\x14\x11\x12\x13\x14\x15\x16\x17\x18\x00\x00\x00\x3f\x00\x00\x00\x7f"
	want += string(binary.BigEndian.AppendUint32(nil, sum(strings.Repeat("a", 64)))) + strings.Repeat("\x00", 38)
	want += string(binary.BigEndian.AppendUint32(nil, sum(want)))
	if s, _ := d.Kept(515); s != want {
		t.Errorf("the head is %q, want %q", s, want)
	}
	if s, _ := d.Kept(516); s != strings.Repeat("a", 64) {
		t.Errorf("behind the head is %q", s)
	}
}

// disks are a source's disk, one that is down, one that is too small for anything, and none: the arguments' errors come ahead of theirs.
func disks(t *testing.T, g api.Geom) []*disk.Disk {
	t.Helper()
	up := fresh(t, g)
	put(t, up, 0, sector.Zero())
	return []*disk.Disk{up, fallen(t, up), made(t, 1), nil}
}

// P17.1, P17.2: a geometry that is not valid is told ahead of all else.
func TestGeometry(t *testing.T) {
	for _, g := range wrong {
		full := made(t, 1200)
		for _, d := range []*disk.Disk{full, fallen(t, full), made(t, 1), nil} {
			for _, k := range []int{0, 1, -1, math.MaxInt} {
				for _, i := range []int{0, 1, -1, math.MinInt} {
					appendFails(t, "no geometry", d, g, k, i, api.ErrGeom)
				}
			}
			scanFails(t, "no geometry", d, g, 0, api.ErrGeom)
			scanFails(t, "no geometry", d, g, 7, api.ErrGeom)
		}
	}
}

// P17.1: there is no entry k, ahead of a data sector that there is not, and both ahead of the disk.
func TestNoEntry(t *testing.T) {
	for _, g := range few() {
		for _, d := range disks(t, g) {
			for _, k := range []int{-1, -2, g.Cow, g.Cow + 1, 1 << 32, -1 << 32, math.MaxInt, math.MinInt, math.MaxInt/2 + 1} {
				for _, i := range []int{0, g.N - 1, g.N, -1} {
					appendFails(t, "no entry", d, g, k, i, api.ErrFull)
				}
			}
			for _, i := range []int{-1, -6, g.N, g.N + 1, 128, 1 << 32, -1 << 32, math.MaxInt, math.MaxInt - 6, math.MinInt} {
				appendFails(t, "no data sector", d, g, 0, i, api.ErrRange)
				appendFails(t, "no data sector", d, g, g.Cow-1, i, api.ErrRange)
			}
		}
	}
}

// P17.1, P17.2: a geometry without room has no entries, so that the disk is not asked for any.
func TestNoRoom(t *testing.T) {
	for _, g := range []api.Geom{{N: 1, F: 2, Undo: 1}, {N: 128, F: 4, Undo: 320}} {
		for _, d := range disks(t, g) {
			for _, k := range []int{0, 1, -1} {
				for _, i := range []int{0, -1, g.N} {
					appendFails(t, "no room", d, g, k, i, api.ErrFull)
				}
			}
			scans(t, "no room", d, g, 0)
			scans(t, "no room", d, g, 4)
		}
	}
}

// P17.1: the disk's errors: it is not there, is down, or has not the sector that is to be saved, or that of the entry.
func TestAppendDisk(t *testing.T) {
	for _, g := range few() {
		up := fresh(t, g)
		for _, i := range []int{0, g.N / 2, g.N - 1} {
			for _, k := range []int{0, g.Cow / 2, g.Cow - 1} {
				appendFails(t, "nil", nil, g, k, i, api.ErrNil)
				appendFails(t, "down", fallen(t, up), g, k, i, api.ErrDown)
				for _, n := range []int{6 + i, 7 + i, behind(g), headAt(g, k), headAt(g, k) + 1} {
					appendFails(t, "small", cut(t, up, n), g, k, i, api.ErrRange)
				}
				appends(t, cut(t, up, headAt(g, k)+2), g, k, api.Entry{Epoch: 2, Place: i, Old: content(6 + i)})
			}
		}
	}
}

// P17.1: first the sector is written, and flushed, and then the head; the error of each of these. What was written ahead of it stays written.
func TestAppendFuse(t *testing.T) {
	g := api.Geom{N: 5, F: 2, Cow: 3, Undo: 16}
	want := api.Entry{Epoch: 8, Place: 3, Old: content(9)}
	saved := api.Put{At: headAt(g, 2) + 1, Data: content(9)}
	head := api.Put{At: headAt(g, 2), Data: record(2, want)}
	pending := [][]api.Put{{}, {saved}, {}, {head}}
	flushed := [][]api.Put{{}, {}, {saved}, {saved}}
	for fuse := range 4 {
		d := fresh(t, g)
		expect := d.Copy()
		d.Fuse(fuse)
		if e, why := Append(d, g, 2, 8, 3); e != (api.Entry{}) || why != api.ErrDown || !d.Down() {
			t.Errorf("fuse %d: Append = %v %d", fuse, e, why)
		}
		if !slices.Equal(d.Waits(), pending[fuse]) {
			t.Errorf("fuse %d: waits %v, want %v", fuse, d.Waits(), pending[fuse])
		}
		for _, p := range flushed[fuse] {
			put(t, expect, p.At, p.Data)
		}
		expect.Flush()
		kept(t, "fuse", d, expect)
	}
	d := fresh(t, g)
	d.Fuse(4)
	appends(t, d, g, 2, want)
}

// P17.2: Scan returns the entries that there are, up to the last one that there is room for, pending or flushed; its list is its caller's.
func TestScan(t *testing.T) {
	r := rand.New(rand.NewSource(16))
	for _, g := range few() {
		for _, n := range []int{0, 1, 2, g.Cow / 2, g.Cow - 1, g.Cow} {
			d := fresh(t, g)
			epoch := r.Uint64()
			l := some(r, g, min(n, g.Cow), epoch)
			for k, e := range l {
				put(t, d, headAt(g, k), record(k, e))
				put(t, d, headAt(g, k)+1, e.Old)
			}
			scans(t, "pending", d, g, epoch, l...)
			d.Flush()
			scans(t, "flushed", d, g, epoch, l...)
			got, _ := Scan(d, g, epoch)
			for i := range got {
				got[i] = api.Entry{}
			}
			scans(t, "behind a change of its result", d, g, epoch, l...)
			if len(l) == g.Cow {
				put(t, d, size(g), record(g.Cow, l[0]))
				put(t, d, size(g)+1, l[0].Old)
				scans(t, "behind the last one", d, g, epoch, l...)
			}
		}
	}
}

// P17.2: the entries' epoch must be the one that is asked for, be it greater or less.
func TestScanEpoch(t *testing.T) {
	g := api.Geom{N: 3, F: 2, Cow: 4, Undo: 5}
	r := rand.New(rand.NewSource(17))
	for _, epoch := range numbers {
		d := fresh(t, g)
		l := some(r, g, 3, epoch)
		lay(t, d, g, l...)
		for _, asked := range numbers {
			if epoch == asked {
				scans(t, "its epoch", d, g, asked, l...)
			} else {
				scans(t, "another epoch", d, g, asked)
			}
		}
	}
}

// P17.2: sectors of bytes 0, and records without a body, are no entries, though all their numbers are 0.
func TestScanZero(t *testing.T) {
	g := api.Geom{N: 3, F: 2, Cow: 2, Undo: 5}
	d := made(t, size(g))
	for _, data := range []string{sector.Zero(), raw(8, ""), raw(7, record(0, api.Entry{})[2:22])} {
		put(t, d, headAt(g, 0), data)
		scans(t, "no entry", d, g, 0)
		scans(t, "no entry, and no sector behind it", cut(t, d, headAt(g, 0)+1), g, 0)
	}
	e := api.Entry{Old: sector.Zero()}
	put(t, d, headAt(g, 0), record(0, e))
	scans(t, "an entry", d, g, 0, e)
}

// change is an entry's two sectors, of which one breaks a condition.
type change struct {
	what       string
	head, data string
	// Whether the head has all that it must have: only then is the other sector read.
	right bool
}

// changes are ways in which entry k may be none.
func changes(g api.Geom, k int, e api.Entry) []change {
	right, check := record(k, e), sum(e.Old)
	out := []change{
		{"no record", sector.Zero(), e.Old, false},
		{"no record", content(k), e.Old, false},
		{"another sector", right, sector.Zero(), true},
		{"another checksum", raw(8, body(e.Epoch, k, e.Place, check^1)), e.Old, true},
		{"another checksum", raw(8, body(e.Epoch, k, e.Place, check^1<<31)), e.Old, true},
	}
	for i := range right {
		b, c := []byte(right), []byte(e.Old)
		b[i] ^= 0x10
		c[i] ^= 1
		out = append(out, change{"a changed byte of the head", string(b), e.Old, false}, change{"a changed byte of the sector", right, string(c), true})
	}
	for kind := byte(0); kind < 12; kind++ {
		if kind != 8 {
			out = append(out, change{"another kind", raw(kind, right[2:22]), e.Old, false})
		}
	}
	for n := range 59 {
		if n != 20 {
			out = append(out, change{"a body of another length", raw(8, (right[2:22] + strings.Repeat("\x00", 38))[:n]), e.Old, false})
		}
	}
	for _, other := range []int{k + 1, k - 1, k + 256, k + 1<<16, k + 1<<31, -1} {
		out = append(out, change{"another number", raw(8, body(e.Epoch, other, e.Place, check)), e.Old, false})
	}
	for _, i := range []int{g.N, g.N + 1, 128, 1200, 1 << 24, 1 << 31, -1, -6} {
		out = append(out, change{"no data sector", raw(8, body(e.Epoch, k, i, check)), e.Old, false})
	}
	for _, epoch := range []uint64{0, e.Epoch + 1, e.Epoch - 1, e.Epoch + 1<<32, e.Epoch + 1<<63} {
		out = append(out, change{"another epoch", raw(8, body(epoch, k, e.Place, check)), e.Old, false})
	}
	return out
}

// P17.2: the first entry that breaks a condition is the end, whatever follows. If its head does, the other sector is not read: it need not even be there.
func TestScanConditions(t *testing.T) {
	r := rand.New(rand.NewSource(18))
	for _, g := range []api.Geom{{N: 3, F: 2, Cow: 5, Undo: 5}, {N: 9, F: 3, Cow: 4, Undo: 4}, {N: 1, F: 2, Cow: 3, Undo: 1}} {
		l := some(r, g, g.Cow, 100)
		laid := fresh(t, g)
		lay(t, laid, g, l...)
		scans(t, "all", laid, g, 100, l...)
		for k := range l {
			for _, c := range changes(g, k, l[k]) {
				d := laid.Copy()
				put(t, d, headAt(g, k), c.head)
				put(t, d, headAt(g, k)+1, c.data)
				scans(t, c.what, d, g, 100, l[:k]...)
				d.Flush()
				scans(t, c.what, d, g, 100, l[:k]...)
				if c.right {
					scanFails(t, c.what, cut(t, d, headAt(g, k)+1), g, 100, api.ErrRange)
				} else {
					scans(t, c.what, cut(t, d, headAt(g, k)+1), g, 100, l[:k]...)
				}
			}
		}
	}
}

// P17.2: the geometry tells where the entries are, and how many: with other room on the target they are the same, with less room there are fewer, and with another tree, or other sectors, none.
func TestScanGeometry(t *testing.T) {
	r := rand.New(rand.NewSource(19))
	g := api.Geom{N: 9, F: 3, Cow: 4, Undo: 7}
	d := fresh(t, g)
	l := some(r, g, 4, 6)
	lay(t, d, g, l...)
	scans(t, "other room on the target", d, api.Geom{N: 9, F: 3, Cow: 4, Undo: 1}, 6, l...)
	for n := range 5 {
		scans(t, "less room", d, api.Geom{N: 9, F: 3, Cow: n, Undo: 7}, 6, l[:n]...)
	}
	scans(t, "more room", d, api.Geom{N: 9, F: 3, Cow: 5, Undo: 7}, 6, l...)
	scans(t, "another tree", d, api.Geom{N: 9, F: 2, Cow: 2, Undo: 7}, 6)
	scans(t, "fewer sectors", d, api.Geom{N: 8, F: 3, Cow: 4, Undo: 7}, 6)
}

// P17.2: the disk's errors: it is not there, is down, or ends within the entries, or where the next head would be.
func TestScanDisk(t *testing.T) {
	r := rand.New(rand.NewSource(20))
	for _, g := range few()[:6] {
		laid := fresh(t, g)
		l := some(r, g, min(1+g.Cow/2, g.Cow), 6)
		lay(t, laid, g, l...)
		scanFails(t, "nil", nil, g, 6, api.ErrNil)
		scanFails(t, "down", fallen(t, laid), g, 6, api.ErrDown)
		for n := 1; n <= size(g); n++ {
			d := cut(t, laid, n)
			if n <= headAt(g, len(l)) && n < size(g) {
				scanFails(t, "small", d, g, 6, api.ErrRange)
			} else {
				scans(t, "just enough", d, g, 6, l...)
			}
			if n <= headAt(g, 0) {
				scanFails(t, "no head", d, g, 5, api.ErrRange)
			} else {
				scans(t, "another epoch", d, g, 5)
			}
		}
	}
}

// finds tells if Find does not return this.
func finds(t *testing.T, l []api.Entry, i int, want string, is bool) {
	t.Helper()
	was := slices.Clone(l)
	if s, ok := Find(l, i); s != want || ok != is {
		t.Errorf("Find(%v, %d) = %q %t, want %q %t", l, i, s, ok, want, is)
	}
	if !slices.Equal(l, was) {
		t.Error("Find has changed its list")
	}
}

// P17.2: Find returns the first entry of the data sector, whatever its epoch is, and whatever it has.
func TestFind(t *testing.T) {
	entry := func(i int, c byte) api.Entry { return api.Entry{Epoch: 6, Place: i, Old: sector.Fill(c)} }
	l := []api.Entry{entry(7, 1), entry(9, 2), entry(7, 3), {Tag: 1, Epoch: 9, Place: 9, Old: sector.Fill(4)}, {Place: 0, Old: "x"}, {Place: -1}, entry(math.MaxInt, 5), entry(math.MinInt, 6), entry(8, 7)}
	finds(t, l, 7, sector.Fill(1), true)
	finds(t, l[1:], 7, sector.Fill(3), true)
	finds(t, l[3:], 7, "", false)
	finds(t, l, 9, sector.Fill(2), true)
	finds(t, l[2:], 9, sector.Fill(4), true)
	finds(t, l, 0, "x", true)
	finds(t, l, -1, "", true)
	finds(t, l, math.MaxInt, sector.Fill(5), true)
	finds(t, l, math.MinInt, sector.Fill(6), true)
	finds(t, l, 8, sector.Fill(7), true)
	for _, i := range []int{1, 6, 10, -2, 1<<32 + 7, math.MaxInt - 1} {
		finds(t, l, i, "", false)
	}
	for _, i := range []int{0, 7, -1} {
		finds(t, nil, i, "", false)
		finds(t, []api.Entry{}, i, "", false)
	}
}

// P17.3: what was appended for one epoch, k by k, is what Scan returns for it; of the epochs before it there is nothing. Writes of those sectors change none of it.
func TestEpochs(t *testing.T) {
	r := rand.New(rand.NewSource(23))
	for _, g := range few() {
		d := fresh(t, g)
		for epoch := uint64(1); epoch <= 12; epoch++ {
			var l []api.Entry
			for k := range 1 + r.Intn(g.Cow) {
				i := r.Intn(g.N)
				old, _ := d.Read(6 + i)
				e := api.Entry{Epoch: epoch, Place: i, Old: old}
				appends(t, d, g, k, e)
				put(t, d, 6+i, sector.Mix(r.Uint64()))
				l = append(l, e)
			}
			scans(t, "its epoch", d, g, epoch, l...)
			scans(t, "the epoch before", d, g, epoch-1)
			scans(t, "the epoch to come", d, g, epoch+1)
			for _, e := range l {
				want := l[slices.IndexFunc(l, func(o api.Entry) bool { return o.Place == e.Place })].Old
				finds(t, l, e.Place, want, true)
			}
		}
	}
}

// P17.3: entries of the same epoch that were there already may follow.
func TestOthersFollow(t *testing.T) {
	r := rand.New(rand.NewSource(24))
	g := api.Geom{N: 5, F: 2, Cow: 16, Undo: 3}
	d := fresh(t, g)
	l := some(r, g, 6, 6)
	lay(t, d, g, l...)
	for k, i := range []int{3, 0} {
		l[k] = api.Entry{Epoch: 6, Place: i, Old: content(6 + i)}
		appends(t, d, g, k, l[k])
		scans(t, "others", d, g, 6, l...)
	}
}

// masks are all choices of what is kept of n writes.
func masks(n int) [][]bool {
	var out [][]bool
	for bits := range 1 << n {
		keep := make([]bool, n)
		for i := range keep {
			keep[i] = bits>>i&1 == 1
		}
		out = append(out, keep)
	}
	return out
}

// begun returns a disk on which epoch 6 has entries, with writes pending behind each, and these. Where older is true, an earlier epoch has left its own entries.
func begun(t *testing.T, r *rand.Rand, g api.Geom, n int, older bool) (*disk.Disk, []api.Entry) {
	t.Helper()
	d := fresh(t, g)
	if older {
		lay(t, d, g, some(r, g, g.Cow, 5)...)
	}
	var l []api.Entry
	for k := range n {
		i := r.Intn(g.N)
		old, _ := d.Read(6 + i)
		l = append(l, api.Entry{Epoch: 6, Place: i, Old: old})
		appends(t, d, g, k, l[k])
		put(t, d, 6+i, sector.Mix(r.Uint64()))
	}
	return d, l
}

// P17.3: whatever is kept of an Append during which the disk failed, the entries before it are there; the new one is just if its head is kept, and then it is whole. Of an earlier epoch there is nothing.
func TestAppendCrash(t *testing.T) {
	r := rand.New(rand.NewSource(25))
	for _, g := range []api.Geom{{N: 1, F: 2, Cow: 1, Undo: 1}, {N: 3, F: 2, Cow: 5, Undo: 2}, {N: 9, F: 3, Cow: 4, Undo: 4}} {
		for k := range g.Cow {
			for _, older := range []bool{false, true} {
				for fuse := range 5 {
					laid, l := begun(t, r, g, k, older)
					for _, keep := range masks(3) {
						d := laid.Copy()
						i := r.Intn(g.N)
						old, _ := d.Read(6 + i)
						d.Fuse(fuse)
						e, why := Append(d, g, k, 6, i)
						if want := (api.Entry{Epoch: 6, Place: i, Old: old}); fuse == 4 && (e != want || why != api.OK) || fuse < 4 && why != api.ErrDown {
							t.Fatalf("fuse %d: Append = %v %d", fuse, e, why)
						}
						waits := len(d.Waits())
						d.Crash(keep...)
						d.Up()
						want := l
						if fuse == 4 || fuse == 3 && keep[waits-1] {
							want = append(slices.Clone(l), api.Entry{Epoch: 6, Place: i, Old: old})
						}
						scans(t, "behind a crash", d, g, 6, want...)
					}
				}
			}
		}
	}
}

// P17.3: so it is in long rows of Appends, through crashes at any of them, also where entries of the same epoch were there before.
func TestAppendCrashes(t *testing.T) {
	r := rand.New(rand.NewSource(26))
	g := api.Geom{N: 9, F: 3, Cow: 30, Undo: 7}
	for range 40 {
		d := fresh(t, g)
		lay(t, d, g, some(r, g, 1+r.Intn(g.Cow), 6)...)
		var l []api.Entry
		for len(l) < g.Cow {
			i := r.Intn(g.N)
			put(t, d, 6+i, sector.Mix(r.Uint64()))
			d.Fuse(r.Intn(9) - 1)
			e, why := Append(d, g, len(l), 6, i)
			if why == api.OK {
				l = append(l, e)
			}
			d.Crash(r.Intn(2) == 0, r.Intn(2) == 0)
			d.Up()
			got, why := Scan(d, g, 6)
			if why != api.OK || len(got) < len(l) || !slices.Equal(got[:len(l)], l) {
				t.Fatalf("Scan = %v %d, want %v", got, why, l)
			}
		}
		scans(t, "all", d, g, 6, l...)
	}
}

// P17.2: the document's example.
func TestExample(t *testing.T) {
	g := api.Geom{N: 5, F: 2, Cow: 3, Undo: 16}
	d := fresh(t, g)
	e := api.Entry{Epoch: 1, Place: 0, Old: content(6)}
	appends(t, d, g, 0, e)
	scans(t, "its epoch", d, g, 1, e)
	scans(t, "another epoch", d, g, 2)
	scans(t, "another epoch", d, g, 0)
}
