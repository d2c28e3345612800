package slot

import (
	"encoding/binary"
	"math"
	"math/rand"
	"slices"
	"strings"
	"testing"

	"pentimento/api"
	"pentimento/disk"
	"pentimento/rec"
	"pentimento/sector"
)

// made returns a disk with n sectors.
func made(t *testing.T, n int) *disk.Disk {
	t.Helper()
	d, why := disk.New(n)
	if why != api.OK {
		t.Fatalf("disk.New(%d) = %d", n, why)
	}
	return d
}

// raw is the sector of a record with this body, a slot's or not.
func raw(t *testing.T, kind int, body string) string {
	t.Helper()
	s, why := rec.Make(kind, body)
	if why != api.OK {
		t.Fatalf("rec.Make(%d, %q) = %d", kind, body, why)
	}
	return s
}

// record is the sector of a slot's record, its number in bytes by the library.
func record(t *testing.T, kind int, seq uint64, body string) string {
	t.Helper()
	return raw(t, kind, string(binary.BigEndian.AppendUint64(nil, seq))+body)
}

// puts writes sectors to a disk, from location at on.
func puts(t *testing.T, d *disk.Disk, at int, l ...string) {
	t.Helper()
	for i, data := range l {
		if why := d.Write(at+i, data); why != api.OK {
			t.Fatalf("Write(%d) = %d", at+i, why)
		}
	}
}

// saves saves a record that must be saved.
func saves(t *testing.T, d *disk.Disk, at, kind int, seq uint64, body string) {
	t.Helper()
	if why := Save(d, at, kind, seq, body); why != api.OK {
		t.Fatalf("Save(%d, %d, %d, %q) = %d", at, kind, seq, body, why)
	}
}

// loads tells if Load does not return this record.
func loads(t *testing.T, d *disk.Disk, at, kind int, seq uint64, body string) {
	t.Helper()
	if n, s, why := Load(d, at, kind); n != seq || s != body || why != api.OK {
		t.Errorf("Load(%d, %d) = %d %q %d, want %d %q", at, kind, n, s, why, seq, body)
	}
}

// fails tells if Load does not return this error, and nothing beside it.
func fails(t *testing.T, d *disk.Disk, at, kind int, want api.Errno) {
	t.Helper()
	if n, s, why := Load(d, at, kind); n != 0 || s != "" || why != want {
		t.Errorf("Load(%d, %d) = %d %q %d, want %d", at, kind, n, s, why, want)
	}
}

// refuses tells if Save does not return this error, or changes the disk.
func refuses(t *testing.T, d *disk.Disk, at, kind int, seq uint64, body string, want api.Errno) {
	t.Helper()
	done, waits, down := d.Done(), len(d.Waits()), d.Down()
	if why := Save(d, at, kind, seq, body); why != want {
		t.Errorf("Save(%d, %d, %d) of %d bytes = %d, want %d", at, kind, seq, len(body), why, want)
	}
	if d.Done() != done || len(d.Waits()) != waits || d.Down() != down {
		t.Errorf("Save(%d, %d, %d) of %d bytes has changed the disk", at, kind, seq, len(body))
	}
}

// bodyOf is n bytes, of which no two neighbours are alike and none is 0.
func bodyOf(n int) string {
	b := make([]byte, n)
	for i := range b {
		b[i] = byte(i*7+n)%251 + 1
	}
	return string(b)
}

// numbers are sequence numbers, the least and the greatest among them.
var numbers = []uint64{0, 1, 2, 3, 255, 256, 1<<32 - 1, 1 << 32, 1<<63 - 1, 1 << 63, math.MaxUint64 - 1, math.MaxUint64}

// below and above are locations that no disk has.
var (
	below = []int{-1, -2, -1200, math.MinInt, math.MinInt + 1}
	above = []int{1201, 1202, 1 << 32, math.MaxInt - 1, math.MaxInt}
)

var notKinds = []int{0, -1, 9, 255, 256, 258, 1<<32 + 2, math.MaxInt, math.MinInt}

// P9.2: Save writes the record to the sector that its number goes to, and to no other one, and flushes.
func TestSave(t *testing.T) {
	if Most != 50 {
		t.Errorf("Most = %d", Most)
	}
	for kind := 1; kind <= 8; kind++ {
		for _, seq := range numbers {
			for n := 0; n <= 50; n += 5 {
				d := made(t, 5)
				puts(t, d, 0, sector.Fill(1), sector.Fill(2), sector.Fill(3), sector.Fill(4), sector.Fill(5))
				saves(t, d, 1, kind, seq, bodyOf(n))
				if d.Done() != 7 || len(d.Waits()) != 0 || d.Down() {
					t.Errorf("Save(%d, %d): done %d, waits %d", kind, seq, d.Done(), len(d.Waits()))
				}
				for at := range 5 {
					want := sector.Fill(byte(at + 1))
					if at == 1+int(seq&1) {
						want = record(t, kind, seq, bodyOf(n))
					}
					if s, why := d.Kept(at); s != want || why != api.OK {
						t.Errorf("Save(%d, %d): sector %d is %q, want %q", kind, seq, at, s, want)
					}
				}
			}
		}
	}
}

// P9.1, P9.2: bodies of all lengths and bytes come back as they were saved.
func TestBack(t *testing.T) {
	for kind := 1; kind <= 8; kind++ {
		d := made(t, 2)
		seq := uint64(0)
		for n := range 51 {
			for _, body := range []string{bodyOf(n), strings.Repeat("\x00", n), strings.Repeat("\xff", n)} {
				seq++
				saves(t, d, 0, kind, seq, body)
				loads(t, d, 0, kind, seq, body)
			}
		}
	}
	for _, seq := range numbers {
		d := made(t, 2)
		saves(t, d, 0, rec.Boot, seq, "a body")
		loads(t, d, 0, rec.Boot, seq, "a body")
	}
}

// P9.2: Save's errors, each of them ahead of those behind it, and none changes anything.
func TestSaveErrors(t *testing.T) {
	long := []string{bodyOf(51), bodyOf(58), bodyOf(59), bodyOf(1000)}
	up, down := made(t, 4), made(t, 4)
	down.Crash()
	up.Fuse(0)
	for _, d := range []*disk.Disk{nil, up, down} {
		for _, seq := range numbers {
			for _, at := range append(below, above...) {
				for _, body := range append(long, "", bodyOf(50)) {
					refuses(t, d, at, rec.Boot, seq, body, api.ErrRange)
					refuses(t, d, at, 0, seq, body, api.ErrRange)
				}
			}
			for _, at := range []int{0, 3, 4, 1199, 1200} {
				for _, body := range long {
					refuses(t, d, at, rec.Boot, seq, body, api.ErrLong)
					refuses(t, d, at, 0, seq, body, api.ErrLong)
				}
				for _, kind := range notKinds {
					refuses(t, d, at, kind, seq, "", api.ErrKind)
					refuses(t, d, at, kind, seq, bodyOf(50), api.ErrKind)
				}
			}
			for _, at := range []int{4, 1199, 1200} {
				refuses(t, nil, at, rec.Boot, seq, bodyOf(50), api.ErrNil)
				refuses(t, down, at, rec.Boot, seq, bodyOf(50), api.ErrDown)
				refuses(t, up, at, rec.Boot, seq, bodyOf(50), api.ErrRange)
			}
			refuses(t, nil, 0, rec.Boot, seq, "", api.ErrNil)
			refuses(t, down, 0, rec.Boot, seq, "", api.ErrDown)
		}
	}
}

// P9.2: a slot at the end of a disk has only its first sector.
func TestSaveAtEnd(t *testing.T) {
	for _, n := range []int{1, 4, 1199, 1200} {
		d := made(t, n)
		refuses(t, d, n-1, rec.Boot, 1, "odd", api.ErrRange)
		saves(t, d, n-1, rec.Boot, 2, "even")
		if s, _ := d.Kept(n - 1); s != record(t, rec.Boot, 2, "even") {
			t.Errorf("the last one of %d sectors is %q", n, s)
		}
		refuses(t, d, n, rec.Boot, 2, "even", api.ErrRange)
		fails(t, d, n-1, rec.Boot, api.ErrRange)
		fails(t, d, n, rec.Boot, api.ErrRange)
	}
}

// P9.2: the disk's errors for the write and for the flush. What was written ahead of a flush that failed is pending.
func TestSaveFuse(t *testing.T) {
	for fuse := range 3 {
		d := made(t, 2)
		d.Fuse(fuse)
		want := []api.Errno{api.ErrDown, api.ErrDown, api.OK}[fuse]
		if why := Save(d, 0, rec.Boot, 1, "x"); why != want || d.Done() != fuse {
			t.Errorf("fuse %d: Save = %d, done %d", fuse, why, d.Done())
		}
		if waits := d.Waits(); len(waits) != []int{0, 1, 0}[fuse] {
			t.Errorf("fuse %d: waits %v", fuse, waits)
		}
	}
}

// P9.1: Load takes the record with the greater number, from either sector, pending or flushed.
func TestLoad(t *testing.T) {
	for _, flush := range []bool{false, true} {
		for _, m := range numbers {
			for _, n := range numbers {
				d := made(t, 3)
				puts(t, d, 1, record(t, rec.Epoch, m, "first"), record(t, rec.Epoch, n, "second"))
				if flush {
					d.Flush()
				}
				done := d.Done()
				if n > m {
					loads(t, d, 1, rec.Epoch, n, "second")
				} else {
					loads(t, d, 1, rec.Epoch, m, "first")
				}
				if d.Done() != done {
					t.Error("Load has written")
				}
			}
		}
	}
}

// nothing are sectors without a record of the kind Commit.
func nothing(t *testing.T) []string {
	full := record(t, rec.Commit, math.MaxUint64, "changed")
	out := []string{sector.Zero(), sector.Fill(0xff), full[:63] + string([]byte{full[63] ^ 1}), "\x05" + full[1:]}
	for n := range 8 {
		out = append(out, raw(t, rec.Commit, strings.Repeat("\xff", n)))
	}
	for kind := 1; kind <= 8; kind++ {
		if kind != rec.Commit {
			out = append(out, record(t, kind, math.MaxUint64, "of another kind"))
		}
	}
	return out
}

// P9.1: a sector without a record of the kind has none: that of the other sector is returned, whatever its number, and ErrNone if that has none either.
func TestLoadOne(t *testing.T) {
	for _, one := range nothing(t) {
		for _, seq := range numbers {
			for _, body := range []string{"", "there", bodyOf(50)} {
				d := made(t, 4)
				puts(t, d, 0, one, record(t, rec.Commit, seq, body), one)
				loads(t, d, 0, rec.Commit, seq, body)
				loads(t, d, 1, rec.Commit, seq, body)
			}
		}
		for _, other := range nothing(t) {
			d := made(t, 2)
			puts(t, d, 0, one, other)
			fails(t, d, 0, rec.Commit, api.ErrNone)
		}
	}
}

// P9.1: there is no record of a kind that there is not.
func TestLoadKinds(t *testing.T) {
	d := made(t, 3)
	saves(t, d, 0, rec.Super, 0, "")
	saves(t, d, 0, rec.Cow, 1, "")
	for _, kind := range append(notKinds, 2, 3, 4, 5, 6, 7) {
		fails(t, d, 0, kind, api.ErrNone)
		fails(t, d, 1, kind, api.ErrNone)
	}
	loads(t, d, 0, rec.Super, 0, "")
	loads(t, d, 0, rec.Cow, 1, "")
	loads(t, d, 1, rec.Cow, 1, "")
}

// P9.1: the disk's errors come ahead of ErrNone, and with them there is no record, be there one in the first sector or not.
func TestLoadErrors(t *testing.T) {
	d := made(t, 4)
	saves(t, d, 2, rec.Boot, 7, "second")
	puts(t, d, 2, record(t, rec.Boot, 9, "first"))
	d.Flush()
	for _, kind := range append(notKinds, rec.Boot) {
		for _, at := range slices.Concat(below, above, []int{3, 4, 1199, 1200}) {
			fails(t, d, at, kind, api.ErrRange)
		}
		for _, at := range slices.Concat(below, above, []int{0, 3, 4, 1200}) {
			fails(t, nil, at, kind, api.ErrNil)
		}
	}
	loads(t, d, 2, rec.Boot, 9, "first")
	d.Crash()
	for _, at := range slices.Concat(below, above, []int{0, 2, 3, 4, 1200}) {
		fails(t, d, at, rec.Boot, api.ErrDown)
	}
	d.Up()
	loads(t, d, 2, rec.Boot, 9, "first")
}

// The document's example; and of slots that stand one behind the other, and of kinds, each has its own.
func TestSlots(t *testing.T) {
	d := made(t, 6)
	saves(t, d, 1, rec.Boot, 1, "one")
	saves(t, d, 1, rec.Boot, 2, "two")
	loads(t, d, 1, rec.Boot, 2, "two")
	saves(t, d, 3, rec.Epoch, 9, "nine")
	saves(t, d, 3, rec.Epoch, 8, "eight")
	loads(t, d, 1, rec.Boot, 2, "two")
	loads(t, d, 3, rec.Epoch, 9, "nine")
	fails(t, d, 1, rec.Epoch, api.ErrNone)
	fails(t, d, 3, rec.Boot, api.ErrNone)
}

// P9.3: records with consecutive numbers are stored alternately: the one before is still there.
func TestAlternately(t *testing.T) {
	for _, from := range []uint64{0, 1, 255, 1<<32 - 2, 1<<63 - 2, math.MaxUint64 - 6} {
		d := made(t, 2)
		saves(t, d, 0, rec.Boot, from, "as at first")
		before := record(t, rec.Boot, from, "as at first")
		for seq := from + 1; seq < from+6; seq++ {
			saves(t, d, 0, rec.Boot, seq, bodyOf(int(seq%51)))
			at := int(seq % 2)
			now := record(t, rec.Boot, seq, bodyOf(int(seq%51)))
			here, _ := d.Kept(at)
			there, _ := d.Kept(1 - at)
			if here != now || there != before {
				t.Errorf("behind Save of %d: sector %d is %q, the other one %q", seq, at, here, there)
			}
			loads(t, d, 0, rec.Boot, seq, bodyOf(int(seq%51)))
			before = now
		}
	}
}

// P9.3: whatever is kept of a Save during which the disk failed, Load returns what it returned before, or what was being saved: the latter just if its write is kept. Other writes are pending too.
func TestCrash(t *testing.T) {
	for _, from := range []uint64{0, 1, 2, 255, 1<<32 - 1, 1<<63 - 1, math.MaxUint64 - 2} {
		for fuse := range 3 {
			for keep := range 1 << 4 {
				d := made(t, 6)
				saves(t, d, 1, rec.Epoch, from, "before the last")
				saves(t, d, 1, rec.Epoch, from+1, "the last")
				puts(t, d, 3, sector.Fill(1), sector.Fill(2), sector.Fill(3))
				d.Fuse(fuse)
				list := make([]bool, 4)
				for i := range list {
					list[i] = keep>>i&1 == 1
				}
				why := Save(d, 1, rec.Epoch, from+2, "the next")
				d.Crash(list...)
				d.Up()
				if (why == api.OK) != (fuse == 2) {
					t.Errorf("fuse %d: Save = %d", fuse, why)
				}
				if fuse == 2 || fuse == 1 && list[3] {
					loads(t, d, 1, rec.Epoch, from+2, "the next")
				} else {
					loads(t, d, 1, rec.Epoch, from+1, "the last")
				}
			}
		}
	}
}

// P9.3: so it is from the first Save on, when there is no record before it.
func TestCrashFirst(t *testing.T) {
	for fuse := range 3 {
		for _, keep := range []bool{false, true} {
			d := made(t, 2)
			d.Fuse(fuse)
			Save(d, 0, rec.Boot, 0, "first")
			d.Crash(keep)
			d.Up()
			if fuse == 2 || fuse == 1 && keep {
				loads(t, d, 0, rec.Boot, 0, "first")
			} else {
				fails(t, d, 0, rec.Boot, api.ErrNone)
			}
		}
	}
}

// P9.3: so it is in long rows of Saves with consecutive numbers, through crashes at any of them.
func TestCrashes(t *testing.T) {
	r := rand.New(rand.NewSource(9))
	for range 200 {
		d := made(t, 2)
		seq, body := uint64(r.Intn(3)), "first"
		saves(t, d, 0, rec.Commit, seq, body)
		for range 60 {
			next := bodyOf(r.Intn(51))
			d.Fuse(r.Intn(8) - 1)
			why := Save(d, 0, rec.Commit, seq+1, next)
			if !d.Down() {
				d.Crash()
			} else {
				d.Crash(r.Intn(2) == 1, r.Intn(2) == 1)
			}
			d.Up()
			n, s, fault := Load(d, 0, rec.Commit)
			old, latest := n == seq && s == body, n == seq+1 && s == next
			if fault != api.OK || !latest && (!old || why == api.OK) {
				t.Fatalf("behind Save(%d, %q) = %d: Load = %d %q %d, before %d %q", seq+1, next, why, n, s, fault, seq, body)
			}
			seq, body = n, s
		}
	}
}
