package undo

import (
	"encoding/binary"
	"hash/crc32"
	"math"
	"math/rand"
	"slices"
	"strings"
	"testing"

	"pentimento/api"
	"pentimento/disk"
	"pentimento/sector"
)

// wrong are geometries that are not valid.
var wrong = []api.Geom{
	{}, {N: 0, F: 2, Undo: 1}, {N: -1, F: 2, Undo: 1}, {N: 129, F: 2, Undo: 1}, {N: math.MinInt, F: 2, Undo: 1}, {N: math.MaxInt, F: 4, Undo: 1},
	{N: 2, F: 1, Undo: 1}, {N: 2, F: 0, Undo: 1}, {N: 2, F: 5, Undo: 1}, {N: 2, F: -2, Undo: 1},
	{N: 2, F: 2, Cow: -1, Undo: 1}, {N: 2, F: 2, Cow: 65, Undo: 1}, {N: 2, F: 2, Undo: 0}, {N: 2, F: 2, Undo: 321}, {N: 2, F: 2, Undo: -1}, {N: 2, F: 2, Undo: math.MaxInt},
}

// numbers are some that tags and epochs can be.
var numbers = []uint64{0, 1, 2, 255, 256, 1<<20 + 1, 1<<32 - 1, 1 << 32, api.MaxEpoch - 1, api.MaxEpoch, api.MaxEpoch + 1, 1 << 63, math.MaxUint64 - 1, math.MaxUint64}

// few are some valid geometries: the least and the greatest, of several trees, with and without room on the source.
func few() []api.Geom {
	return []api.Geom{
		{N: 1, F: 2, Undo: 1}, {N: 1, F: 4, Cow: 64, Undo: 3}, {N: 3, F: 2, Cow: 2, Undo: 5}, {N: 5, F: 2, Cow: 3, Undo: 16},
		{N: 9, F: 3, Cow: 7, Undo: 4}, {N: 17, F: 4, Undo: 40}, {N: 128, F: 4, Cow: 64, Undo: 2}, {N: 128, F: 2, Cow: 64, Undo: 320},
	}
}

// behind is the location right behind the nodes: six sectors of the volume, the data sectors, and the nodes level by level.
func behind(g api.Geom) int {
	at, n := 6+g.N+g.N, g.N
	for n > 1 {
		n = (n + g.F - 1) / g.F
		at += n
	}
	return at
}

// headAt is the location of an entry's head; the sector that was saved follows.
func headAt(g api.Geom, k int) int { return behind(g) + 2*k }

// size is how many sectors the target's disk has.
func size(g api.Geom) int { return headAt(g, g.Undo) }

// content is a sector of which no other location has the like.
func content(at int) string {
	return strings.Repeat(string([]byte{byte(at >> 8), byte(at), 0xff, byte(at) ^ 0x5a}), 16)
}

// sum is the checksum by the library.
func sum(s string) uint32 { return crc32.Checksum([]byte(s), crc32.MakeTable(crc32.Castagnoli)) }

// raw is the sector of a record with this kind and body, an entry's head or not.
func raw(kind byte, body string) string {
	full := string([]byte{kind, byte(len(body))}) + body
	full += strings.Repeat("\x00", 60-len(full))
	return full + string(binary.BigEndian.AppendUint32(nil, sum(full)))
}

// body is that of an entry's head.
func body(tag, epoch uint64, k, place int, check uint32) string {
	b := binary.BigEndian.AppendUint64(nil, tag)
	b = binary.BigEndian.AppendUint64(b, epoch)
	b = binary.BigEndian.AppendUint32(b, uint32(k))
	b = binary.BigEndian.AppendUint32(b, uint32(place))
	return string(binary.BigEndian.AppendUint32(b, check))
}

// record is the sector of the head of entry k.
func record(k int, e api.Entry) string {
	return raw(7, body(e.Tag, e.Epoch, k, e.Place, sum(e.Old)))
}

// made returns a disk with n sectors.
func made(t *testing.T, n int) *disk.Disk {
	t.Helper()
	d, why := disk.New(n)
	if why != api.OK {
		t.Fatalf("disk.New(%d) = %d", n, why)
	}
	return d
}

// put writes a sector.
func put(t *testing.T, d *disk.Disk, at int, data string) {
	t.Helper()
	if why := d.Write(at, data); why != api.OK {
		t.Fatalf("Write(%d) = %d", at, why)
	}
}

// fresh returns a target's disk without entries, and two sectors more behind it. All is flushed.
func fresh(t *testing.T, g api.Geom) *disk.Disk {
	t.Helper()
	d := made(t, size(g)+2)
	for at := range d.Len() {
		put(t, d, at, content(at))
	}
	d.Flush()
	return d
}

// cut returns a disk with the first n sectors of another one.
func cut(t *testing.T, d *disk.Disk, n int) *disk.Disk {
	t.Helper()
	out := made(t, n)
	for at := range n {
		data, _ := d.Read(at)
		put(t, out, at, data)
	}
	out.Flush()
	return out
}

// fallen is a disk that is down.
func fallen(t *testing.T, d *disk.Disk) *disk.Disk {
	t.Helper()
	d = d.Copy()
	d.Crash()
	return d
}

// lay writes entries to the area, by the definition, and flushes.
func lay(t *testing.T, d *disk.Disk, g api.Geom, l ...api.Entry) {
	t.Helper()
	for k, e := range l {
		put(t, d, headAt(g, k), record(k, e))
		put(t, d, headAt(g, k)+1, e.Old)
	}
	d.Flush()
}

// kept tells if not all flushed sectors of two disks are alike.
func kept(t *testing.T, what string, d, want *disk.Disk) {
	t.Helper()
	for at := range want.Len() {
		a, _ := d.Kept(at)
		b, _ := want.Kept(at)
		if a != b {
			t.Fatalf("%s: sector %d is %q, want %q", what, at, a, b)
		}
	}
}

// same tells if a disk is not as another one, with its pending writes.
func same(t *testing.T, what string, d, want *disk.Disk) {
	t.Helper()
	if d.Done() != want.Done() || d.Down() != want.Down() || !slices.Equal(d.Waits(), want.Waits()) {
		t.Fatalf("%s: done %d, want %d; waits %v, want %v", what, d.Done(), want.Done(), d.Waits(), want.Waits())
	}
	kept(t, what, d, want)
}

// appends appends an entry, and tells if that does not return it.
func appends(t *testing.T, d *disk.Disk, g api.Geom, k int, want api.Entry) {
	t.Helper()
	if e, why := Append(d, g, k, want.Tag, want.Epoch, want.Place); e != want || why != api.OK {
		t.Fatalf("%v: Append(%d, %d, %d, %d) = %v %d, want %v", g, k, want.Tag, want.Epoch, want.Place, e, why, want)
	}
}

// appendFails tells if Append does not return this error, and nothing beside it, or changes the disk.
func appendFails(t *testing.T, what string, d *disk.Disk, g api.Geom, k, place int, want api.Errno) {
	t.Helper()
	was := d.Copy()
	if e, why := Append(d, g, k, 3, 4, place); e != (api.Entry{}) || why != want {
		t.Errorf("%s, %v: Append(%d, %d) = %v %d, want %d", what, g, k, place, e, why, want)
	}
	if d != nil {
		same(t, what, d, was)
	}
}

// scans tells if Scan does not return these entries, or changes the disk.
func scans(t *testing.T, what string, d *disk.Disk, g api.Geom, epoch uint64, want ...api.Entry) {
	t.Helper()
	was := d.Copy()
	if l, why := Scan(d, g, epoch); !slices.Equal(l, want) || why != api.OK {
		t.Fatalf("%s, %v: Scan(%d) = %v %d, want %v", what, g, epoch, l, why, want)
	}
	same(t, what, d, was)
}

// scanFails tells if Scan does not return this error, and nothing beside it, or changes the disk.
func scanFails(t *testing.T, what string, d *disk.Disk, g api.Geom, epoch uint64, want api.Errno) {
	t.Helper()
	was := d.Copy()
	if l, why := Scan(d, g, epoch); len(l) != 0 || why != want {
		t.Errorf("%s, %v: Scan(%d) = %v %d, want %d", what, g, epoch, l, why, want)
	}
	if d != nil {
		same(t, what, d, was)
	}
}

// clears tells if Clear does not return this.
func clears(t *testing.T, what string, d *disk.Disk, g api.Geom, want api.Errno) {
	t.Helper()
	if why := Clear(d, g); why != want {
		t.Errorf("%s, %v: Clear = %d, want %d", what, g, why, want)
	}
}

// try is n entries of one try, of locations by chance, some of them perhaps more than once.
func try(r *rand.Rand, g api.Geom, n int, tag, epoch uint64) []api.Entry {
	var out []api.Entry
	for range n {
		out = append(out, api.Entry{Tag: tag, Epoch: epoch, Place: 6 + r.Intn(behind(g)-6), Old: sector.Mix(r.Uint64())})
	}
	return out
}

// P15.1: Append saves each location that can be undone as entry k, and changes nothing else. All is flushed, also what was pending ahead of it.
func TestAppend(t *testing.T) {
	for _, g := range few() {
		for place := 6; place < behind(g); place++ {
			d := fresh(t, g)
			k, tag, epoch := place%g.Undo, numbers[place%len(numbers)], numbers[(place/3)%len(numbers)]
			want := api.Entry{Tag: tag, Epoch: epoch, Place: place, Old: content(place)}
			put(t, d, 0, sector.Fill(1))
			done, expect := d.Done(), d.Copy()
			appends(t, d, g, k, want)
			if d.Done() != done+4 || len(d.Waits()) != 0 {
				t.Errorf("%v: done %d, waits %v", g, d.Done()-done, d.Waits())
			}
			put(t, expect, headAt(g, k), record(k, want))
			put(t, expect, headAt(g, k)+1, content(place))
			expect.Flush()
			kept(t, "Append", d, expect)
		}
	}
}

// P15.1: each entry k that there is, in any order; what was saved is what was written last, flushed or not.
func TestAppendPending(t *testing.T) {
	r := rand.New(rand.NewSource(15))
	for _, g := range few() {
		d := fresh(t, g)
		expect := d.Copy()
		for _, k := range r.Perm(g.Undo) {
			place := 6 + r.Intn(behind(g)-6)
			want := api.Entry{Tag: r.Uint64(), Epoch: r.Uint64(), Place: place, Old: sector.Mix(r.Uint64())}
			for _, data := range []string{sector.Fill(3), want.Old} {
				put(t, d, place, data)
				put(t, expect, place, data)
			}
			appends(t, d, g, k, want)
			put(t, expect, headAt(g, k), record(k, want))
			put(t, expect, headAt(g, k)+1, want.Old)
		}
		expect.Flush()
		kept(t, "Append", d, expect)
	}
}

// P15.1: the bytes of a head, told one by one.
func TestSector(t *testing.T) {
	g := api.Geom{N: 128, F: 2, Cow: 64, Undo: 320}
	d := fresh(t, g)
	put(t, d, 388, sector.Fill(0x61))
	appends(t, d, g, 300, api.Entry{Tag: 0x0102030405060708, Epoch: 0x1112131415161718, Place: 388, Old: sector.Fill(0x61)})
	want := "\x07\x1c\x01\x02\x03\x04\x05\x06\x07\x08\x11\x12\x13\x14\x15\x16\x17\x18\x00\x00\x01\x2c\x00\x00\x01\x84"
	want += string(binary.BigEndian.AppendUint32(nil, sum(strings.Repeat("a", 64)))) + strings.Repeat("\x00", 30)
	want += string(binary.BigEndian.AppendUint32(nil, sum(want)))
	if s, _ := d.Kept(989); s != want {
		t.Errorf("the head is %q, want %q", s, want)
	}
	if s, _ := d.Kept(990); s != strings.Repeat("a", 64) {
		t.Errorf("behind the head is %q", s)
	}
}

// disks are a target's disk, one that is down, one that is too small for anything, and none: the arguments' errors come ahead of theirs.
func disks(t *testing.T, g api.Geom) []*disk.Disk {
	t.Helper()
	up := fresh(t, g)
	put(t, up, 0, sector.Zero())
	return []*disk.Disk{up, fallen(t, up), made(t, 1), nil}
}

// P15.1, P15.2: a geometry that is not valid is told ahead of all else.
func TestGeometry(t *testing.T) {
	for _, g := range wrong {
		full := made(t, 1200)
		for _, d := range []*disk.Disk{full, fallen(t, full), made(t, 1), nil} {
			for _, k := range []int{0, 1, -1, math.MaxInt} {
				for _, place := range []int{6, 0, -1, math.MinInt} {
					appendFails(t, "no geometry", d, g, k, place, api.ErrGeom)
				}
			}
			scanFails(t, "no geometry", d, g, 0, api.ErrGeom)
			was := d.Copy()
			clears(t, "no geometry", d, g, api.ErrGeom)
			if d != nil {
				same(t, "Clear", d, was)
			}
		}
	}
}

// P15.1: there is no entry k, ahead of a location that can not be undone, and both ahead of the disk.
func TestNoEntry(t *testing.T) {
	for _, g := range few() {
		for _, d := range disks(t, g) {
			for _, k := range []int{-1, -2, g.Undo, g.Undo + 1, 1 << 32, -1 << 32, math.MaxInt, math.MinInt, math.MaxInt/2 + 1} {
				for _, place := range []int{6, behind(g), -1} {
					appendFails(t, "no entry", d, g, k, place, api.ErrFull)
				}
			}
			for _, place := range []int{-1, 0, 1, 2, 3, 4, 5, behind(g), behind(g) + 1, size(g), size(g) + 2, 1<<32 + 6, math.MaxInt, math.MinInt} {
				appendFails(t, "no location", d, g, 0, place, api.ErrRange)
				appendFails(t, "no location", d, g, g.Undo-1, place, api.ErrRange)
			}
		}
	}
}

// P15.1: the disk's errors: it is not there, is down, or has not the sector that is to be saved, or that of the entry.
func TestAppendDisk(t *testing.T) {
	for _, g := range few() {
		up := fresh(t, g)
		for _, place := range []int{6, 6 + g.N - 1, 6 + g.N, behind(g) - 1} {
			for _, k := range []int{0, g.Undo / 2, g.Undo - 1} {
				appendFails(t, "nil", nil, g, k, place, api.ErrNil)
				appendFails(t, "down", fallen(t, up), g, k, place, api.ErrDown)
				for _, n := range []int{place, place + 1, behind(g), headAt(g, k), headAt(g, k) + 1} {
					appendFails(t, "small", cut(t, up, n), g, k, place, api.ErrRange)
				}
				appends(t, cut(t, up, headAt(g, k)+2), g, k, api.Entry{Tag: 1, Epoch: 2, Place: place, Old: content(place)})
			}
		}
	}
}

// P15.1: first the sector is written, and flushed, and then the head; the error of each of these. What was written ahead of it stays written.
func TestAppendFuse(t *testing.T) {
	g := api.Geom{N: 5, F: 2, Cow: 3, Undo: 16}
	want := api.Entry{Tag: 9, Epoch: 8, Place: 7, Old: content(7)}
	saved := api.Put{At: headAt(g, 3) + 1, Data: content(7)}
	head := api.Put{At: headAt(g, 3), Data: record(3, want)}
	pending := [][]api.Put{{}, {saved}, {}, {head}}
	flushed := [][]api.Put{{}, {}, {saved}, {saved}}
	for fuse := range 4 {
		d := fresh(t, g)
		expect := d.Copy()
		d.Fuse(fuse)
		if e, why := Append(d, g, 3, 9, 8, 7); e != (api.Entry{}) || why != api.ErrDown || !d.Down() {
			t.Errorf("fuse %d: Append = %v %d", fuse, e, why)
		}
		if !slices.Equal(d.Waits(), pending[fuse]) {
			t.Errorf("fuse %d: waits %v, want %v", fuse, d.Waits(), pending[fuse])
		}
		for _, p := range flushed[fuse] {
			put(t, expect, p.At, p.Data)
		}
		expect.Flush()
		kept(t, "fuse", d, expect)
	}
	d := fresh(t, g)
	d.Fuse(4)
	appends(t, d, g, 3, want)
}

// P15.2: Scan returns the entries that there are, up to the last one that there is room for, pending or flushed; its list is its caller's.
func TestScan(t *testing.T) {
	r := rand.New(rand.NewSource(16))
	for _, g := range few() {
		for _, n := range []int{0, 1, 2, g.Undo / 2, g.Undo - 1, g.Undo} {
			d := fresh(t, g)
			l := try(r, g, min(n, g.Undo), r.Uint64(), 1+r.Uint64()/2)
			for k, e := range l {
				put(t, d, headAt(g, k), record(k, e))
				put(t, d, headAt(g, k)+1, e.Old)
			}
			scans(t, "pending", d, g, 0, l...)
			d.Flush()
			scans(t, "flushed", d, g, 0, l...)
			got, _ := Scan(d, g, 0)
			for i := range got {
				got[i] = api.Entry{}
			}
			scans(t, "behind a change of its result", d, g, 0, l...)
			if len(l) == g.Undo {
				put(t, d, size(g), record(g.Undo, l[0]))
				put(t, d, size(g)+1, l[0].Old)
				scans(t, "behind the last one", d, g, 0, l...)
			}
		}
	}
}

// P15.2: the entries' epoch must be greater than the one that is asked for; the tag may be any.
func TestScanEpoch(t *testing.T) {
	g := api.Geom{N: 3, F: 2, Cow: 2, Undo: 5}
	r := rand.New(rand.NewSource(17))
	for i, epoch := range numbers {
		d := fresh(t, g)
		l := try(r, g, 3, numbers[len(numbers)-1-i], epoch)
		lay(t, d, g, l...)
		for _, asked := range numbers {
			if epoch > asked {
				scans(t, "a greater epoch", d, g, asked, l...)
			} else {
				scans(t, "no greater epoch", d, g, asked)
			}
		}
	}
}

// change is an entry's two sectors, of which one breaks a condition.
type change struct {
	what       string
	head, data string
	// Whether the head has all that it must have: only then is the other sector read.
	right bool
}

// changes are ways in which entry k may be none, that of entry 0 or of another one.
func changes(g api.Geom, k int, e api.Entry) []change {
	right, check := record(k, e), sum(e.Old)
	out := []change{
		{"no record", sector.Zero(), e.Old, false},
		{"no record", content(k), e.Old, false},
		{"another sector", right, sector.Zero(), true},
		{"another checksum", raw(7, body(e.Tag, e.Epoch, k, e.Place, check^1)), e.Old, true},
		{"another checksum", raw(7, body(e.Tag, e.Epoch, k, e.Place, check^1<<31)), e.Old, true},
	}
	for i := range right {
		b, c := []byte(right), []byte(e.Old)
		b[i] ^= 0x10
		c[i] ^= 1
		out = append(out, change{"a changed byte of the head", string(b), e.Old, false}, change{"a changed byte of the sector", right, string(c), true})
	}
	for kind := byte(0); kind < 12; kind++ {
		if kind != 7 {
			out = append(out, change{"another kind", raw(kind, right[2:30]), e.Old, false})
		}
	}
	for n := range 59 {
		if n != 28 {
			out = append(out, change{"a body of another length", raw(7, (right[2:30] + strings.Repeat("\x00", 30))[:n]), e.Old, false})
		}
	}
	for _, other := range []int{k + 1, k - 1, k + 256, k + 1<<16, k + 1<<31, -1} {
		out = append(out, change{"another number", raw(7, body(e.Tag, e.Epoch, other, e.Place, check)), e.Old, false})
	}
	for _, place := range []int{0, 1, 5, behind(g), behind(g) + 1, size(g), 1199, 1200, 1<<31 + 6, 1 << 24, -1} {
		out = append(out, change{"a location that can not be undone", raw(7, body(e.Tag, e.Epoch, k, place, check)), e.Old, false})
	}
	for _, epoch := range []uint64{0, 9, 10} {
		out = append(out, change{"no greater epoch", raw(7, body(e.Tag, epoch, k, e.Place, check)), e.Old, false})
	}
	if k == 0 {
		return out
	}
	for _, tag := range []uint64{0, e.Tag + 1, e.Tag - 1, e.Tag + 1<<32, e.Tag + 1<<63} {
		out = append(out, change{"another tag", raw(7, body(tag, e.Epoch, k, e.Place, check)), e.Old, false})
	}
	for _, epoch := range []uint64{e.Epoch + 1, e.Epoch - 1, e.Epoch + 1<<32, e.Epoch + 1<<63} {
		out = append(out, change{"another epoch", raw(7, body(e.Tag, epoch, k, e.Place, check)), e.Old, false})
	}
	return out
}

// P15.2: the first entry that breaks a condition is the end, whatever follows. If its head does, the other sector is not read: it need not even be there.
func TestScanConditions(t *testing.T) {
	r := rand.New(rand.NewSource(18))
	for _, g := range []api.Geom{{N: 3, F: 2, Cow: 2, Undo: 5}, {N: 9, F: 3, Undo: 4}, {N: 1, F: 2, Undo: 3}} {
		l := try(r, g, g.Undo, 77, 100)
		laid := fresh(t, g)
		lay(t, laid, g, l...)
		scans(t, "all", laid, g, 10, l...)
		for k := range l {
			for _, c := range changes(g, k, l[k]) {
				d := laid.Copy()
				put(t, d, headAt(g, k), c.head)
				put(t, d, headAt(g, k)+1, c.data)
				scans(t, c.what, d, g, 10, l[:k]...)
				d.Flush()
				scans(t, c.what, d, g, 10, l[:k]...)
				if c.right {
					scanFails(t, c.what, cut(t, d, headAt(g, k)+1), g, 10, api.ErrRange)
				} else {
					scans(t, c.what, cut(t, d, headAt(g, k)+1), g, 10, l[:k]...)
				}
			}
		}
	}
}

// P15.2: the geometry tells where the entries are, and how many: with other room on the source they are the same, with less room there are fewer, and with another tree, or other sectors, none.
func TestScanGeometry(t *testing.T) {
	r := rand.New(rand.NewSource(19))
	g := api.Geom{N: 9, F: 3, Cow: 7, Undo: 4}
	d := fresh(t, g)
	l := try(r, g, 4, 5, 6)
	lay(t, d, g, l...)
	scans(t, "other room on the source", d, api.Geom{N: 9, F: 3, Undo: 4}, 0, l...)
	for n := 1; n <= 4; n++ {
		scans(t, "less room", d, api.Geom{N: 9, F: 3, Cow: 7, Undo: n}, 0, l[:n]...)
	}
	scans(t, "more room", d, api.Geom{N: 9, F: 3, Cow: 7, Undo: 5}, 0, l...)
	scans(t, "another tree", d, api.Geom{N: 9, F: 2, Cow: 7, Undo: 2}, 0)
	scans(t, "fewer sectors", d, api.Geom{N: 8, F: 3, Cow: 7, Undo: 4}, 0)
}

// P15.2: the disk's errors: it is not there, is down, or ends within the entries, or where the next head would be.
func TestScanDisk(t *testing.T) {
	r := rand.New(rand.NewSource(20))
	for _, g := range few()[:6] {
		laid := fresh(t, g)
		n := 1 + g.Undo/2
		l := try(r, g, min(n, g.Undo), 5, 6)
		lay(t, laid, g, l...)
		scanFails(t, "nil", nil, g, 0, api.ErrNil)
		scanFails(t, "down", fallen(t, laid), g, 0, api.ErrDown)
		for n := 1; n <= size(g); n++ {
			d := cut(t, laid, n)
			if n <= headAt(g, len(l)) && n < size(g) {
				scanFails(t, "small", d, g, 0, api.ErrRange)
			} else {
				scans(t, "just enough", d, g, 0, l...)
			}
			if n <= headAt(g, 0) {
				scanFails(t, "no head", d, g, 6, api.ErrRange)
			} else {
				scans(t, "no greater epoch", d, g, 6)
			}
		}
	}
}

// P15.2: Clear takes the head of entry 0 away, and nothing else, and flushes, also what was pending ahead of it.
func TestClear(t *testing.T) {
	r := rand.New(rand.NewSource(21))
	for _, g := range few() {
		for _, n := range []int{0, 1, g.Undo} {
			d := fresh(t, g)
			lay(t, d, g, try(r, g, n, 5, 6)...)
			put(t, d, 3, sector.Fill(1))
			done, expect := d.Done(), d.Copy()
			clears(t, "Clear", d, g, api.OK)
			if d.Done() != done+2 || len(d.Waits()) != 0 {
				t.Errorf("%v: done %d, waits %v", g, d.Done()-done, d.Waits())
			}
			put(t, expect, headAt(g, 0), sector.Zero())
			expect.Flush()
			kept(t, "Clear", d, expect)
			scans(t, "Clear", d, g, 0)
		}
	}
}

// P15.2: the errors of Clear: the disk is not there, is down, has no such sector, or goes down by its fuse.
func TestClearErrors(t *testing.T) {
	r := rand.New(rand.NewSource(22))
	for _, g := range few() {
		laid := fresh(t, g)
		l := try(r, g, g.Undo, 5, 6)
		lay(t, laid, g, l...)
		clears(t, "nil", nil, g, api.ErrNil)
		for _, d := range []*disk.Disk{fallen(t, laid), cut(t, laid, headAt(g, 0)), made(t, 1)} {
			want := api.ErrRange
			if d.Down() {
				want = api.ErrDown
			}
			was := d.Copy()
			clears(t, "no such sector", d, g, want)
			same(t, "no such sector", d, was)
		}
		clears(t, "just enough", cut(t, laid, headAt(g, 0)+1), g, api.OK)
		for fuse := range 2 {
			d := laid.Copy()
			d.Fuse(fuse)
			clears(t, "fuse", d, g, api.ErrDown)
			if want := (api.Put{At: headAt(g, 0), Data: sector.Zero()}); len(d.Waits()) != fuse || fuse == 1 && d.Waits()[0] != want {
				t.Errorf("fuse %d: waits %v", fuse, d.Waits())
			}
			kept(t, "fuse", d, laid)
			d.Crash(true)
			d.Up()
			scans(t, "behind a crash", d, g, 0, l[:len(l)*(1-fuse)]...)
		}
	}
}

// P15.3: what was appended in one try, k by k, is what Scan returns; of the tries before it, which had other tags or epochs, there is nothing. Behind Clear there is nothing at all. Writes of those sectors change none of it.
func TestTries(t *testing.T) {
	r := rand.New(rand.NewSource(23))
	for _, g := range few() {
		d := fresh(t, g)
		for tag := uint64(1); tag <= 12; tag++ {
			epoch := 1 + tag/2
			var l []api.Entry
			for k := range r.Intn(g.Undo + 1) {
				place := 6 + r.Intn(behind(g)-6)
				old, _ := d.Read(place)
				e := api.Entry{Tag: tag, Epoch: epoch, Place: place, Old: old}
				appends(t, d, g, k, e)
				put(t, d, place, sector.Mix(r.Uint64()))
				l = append(l, e)
			}
			if len(l) == 0 {
				continue
			}
			scans(t, "a try", d, g, epoch-1, l...)
			scans(t, "a try, for any epoch", d, g, 0, l...)
			scans(t, "a try, for its epoch", d, g, epoch)
			if r.Intn(2) == 0 {
				clears(t, "a try", d, g, api.OK)
				scans(t, "cleared", d, g, 0)
			}
		}
	}
}

// P15.3: entries of the same tag and epoch that were there already may follow.
func TestOthersFollow(t *testing.T) {
	r := rand.New(rand.NewSource(24))
	g := api.Geom{N: 5, F: 2, Cow: 3, Undo: 16}
	d := fresh(t, g)
	l := try(r, g, 6, 5, 6)
	lay(t, d, g, l...)
	for k, place := range []int{9, 6} {
		l[k] = api.Entry{Tag: 5, Epoch: 6, Place: place, Old: content(place)}
		appends(t, d, g, k, l[k])
		scans(t, "others", d, g, 5, l...)
	}
}

// masks are all choices of what is kept of n writes.
func masks(n int) [][]bool {
	var out [][]bool
	for bits := range 1 << n {
		keep := make([]bool, n)
		for i := range keep {
			keep[i] = bits>>i&1 == 1
		}
		out = append(out, keep)
	}
	return out
}

// begun returns a disk on which a try for epoch 6 has entries, with writes pending behind each, and these. Where older is true, an earlier try has left its own entries.
func begun(t *testing.T, r *rand.Rand, g api.Geom, n int, older bool) (*disk.Disk, []api.Entry) {
	t.Helper()
	d := fresh(t, g)
	if older {
		lay(t, d, g, try(r, g, g.Undo, 4, 6)...)
	}
	var l []api.Entry
	for k := range n {
		place := 6 + r.Intn(behind(g)-6)
		old, _ := d.Read(place)
		l = append(l, api.Entry{Tag: 5, Epoch: 6, Place: place, Old: old})
		appends(t, d, g, k, l[k])
		put(t, d, place, sector.Mix(r.Uint64()))
	}
	return d, l
}

// P15.4: whatever is kept of an Append during which the disk failed, the entries before it are there; the new one is just if its head is kept, and then it is whole. Of an earlier try there is nothing.
func TestAppendCrash(t *testing.T) {
	r := rand.New(rand.NewSource(25))
	for _, g := range []api.Geom{{N: 1, F: 2, Undo: 1}, {N: 3, F: 2, Cow: 2, Undo: 5}, {N: 9, F: 3, Undo: 4}} {
		for k := range g.Undo {
			for _, older := range []bool{false, true} {
				for fuse := range 5 {
					laid, l := begun(t, r, g, k, older)
					for _, keep := range masks(3) {
						d := laid.Copy()
						place := 6 + r.Intn(behind(g)-6)
						old, _ := d.Read(place)
						d.Fuse(fuse)
						e, why := Append(d, g, k, 5, 6, place)
						if want := (api.Entry{Tag: 5, Epoch: 6, Place: place, Old: old}); fuse == 4 && (e != want || why != api.OK) || fuse < 4 && why != api.ErrDown {
							t.Fatalf("fuse %d: Append = %v %d", fuse, e, why)
						}
						waits := len(d.Waits())
						d.Crash(keep...)
						d.Up()
						want := l
						if fuse == 4 || fuse == 3 && keep[waits-1] {
							want = append(slices.Clone(l), api.Entry{Tag: 5, Epoch: 6, Place: place, Old: old})
						}
						if k == 0 && len(want) == 0 && older {
							continue
						}
						scans(t, "behind a crash", d, g, 5, want...)
					}
				}
			}
		}
	}
}

// P15.4: so it is in long rows of Appends, through crashes at any of them, also where entries of the same try were there before.
func TestAppendCrashes(t *testing.T) {
	r := rand.New(rand.NewSource(26))
	g := api.Geom{N: 9, F: 3, Cow: 7, Undo: 30}
	for range 40 {
		d := fresh(t, g)
		lay(t, d, g, try(r, g, 1+r.Intn(g.Undo), 5, 6)...)
		clears(t, "ahead of the try", d, g, api.OK)
		var l []api.Entry
		for len(l) < g.Undo {
			place := 6 + r.Intn(behind(g)-6)
			put(t, d, place, sector.Mix(r.Uint64()))
			d.Fuse(r.Intn(9) - 1)
			e, why := Append(d, g, len(l), 5, 6, place)
			if why == api.OK {
				l = append(l, e)
			}
			d.Crash(r.Intn(2) == 0, r.Intn(2) == 0)
			d.Up()
			got, why := Scan(d, g, 5)
			if why != api.OK || len(got) < len(l) || !slices.Equal(got[:len(l)], l) {
				t.Fatalf("Scan = %v %d, want %v", got, why, l)
			}
		}
		scans(t, "all", d, g, 5, l...)
	}
}

// P15.2: the document's example.
func TestExample(t *testing.T) {
	g := api.Geom{N: 5, F: 2, Cow: 3, Undo: 16}
	d := fresh(t, g)
	e := api.Entry{Tag: 1<<20 + 1, Epoch: 1, Place: 6, Old: content(6)}
	appends(t, d, g, 0, e)
	scans(t, "Append", d, g, 0, e)
	clears(t, "Clear", d, g, api.OK)
	scans(t, "Clear", d, g, 0)
}
