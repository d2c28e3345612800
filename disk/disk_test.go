package disk

import (
	"math"
	"math/rand"
	"slices"
	"testing"

	"pentimento/api"
	"pentimento/sector"
)

// made returns a disk with n sectors.
func made(t *testing.T, n int) *Disk {
	t.Helper()
	d, why := New(n)
	if d == nil || why != api.OK {
		t.Fatalf("New(%d) = %v %d", n, d, why)
	}
	return d
}

// puts writes sectors of these bytes to the sectors from 0 on.
func puts(t *testing.T, d *Disk, l ...byte) {
	t.Helper()
	for at, c := range l {
		if why := d.Write(at, sector.Fill(c)); why != api.OK {
			t.Fatalf("Write(%d) = %d", at, why)
		}
	}
}

// shows tells if Read or Kept, whichever is handed in, does not return a sector of bytes c.
func shows(t *testing.T, what string, read func(int) (string, api.Errno), at int, c byte) {
	t.Helper()
	if s, why := read(at); s != sector.Fill(c) || why != api.OK {
		t.Errorf("%s: sector %d is %q %d, want bytes %d", what, at, s, why, c)
	}
}

// P6.1: New, at its limits and beyond them.
func TestNew(t *testing.T) {
	for _, n := range []int{1, 2, 7, 1199, 1200} {
		d := made(t, n)
		if d.Len() != n || d.Down() || d.Done() != 0 || len(d.Waits()) != 0 || d.Up() != api.ErrUp {
			t.Errorf("New(%d): %d sectors, down %t, done %d, waits %v", n, d.Len(), d.Down(), d.Done(), d.Waits())
		}
		for at := range n {
			shows(t, "new", d.Read, at, 0)
			shows(t, "new", d.Kept, at, 0)
		}
	}
	for _, n := range []int{0, -1, 1201, 1 << 32, math.MaxInt, math.MinInt} {
		if d, why := New(n); d != nil || why != api.ErrArg {
			t.Errorf("New(%d) = %v %d", n, d, why)
		}
	}
}

// P6.1: Read returns the last pending write, Kept what is flushed.
func TestRead(t *testing.T) {
	d := made(t, 4)
	for c := byte(1); c < 9; c++ {
		puts(t, d, c, c+100)
		shows(t, "pending", d.Read, 0, c)
		shows(t, "pending", d.Read, 1, c+100)
		shows(t, "not written", d.Read, 2, 0)
		shows(t, "pending", d.Kept, 0, 0)
		shows(t, "pending", d.Kept, 1, 0)
	}
	d.Flush()
	shows(t, "flushed", d.Read, 0, 8)
	shows(t, "flushed", d.Kept, 0, 8)
	puts(t, d, 9)
	shows(t, "written again", d.Read, 0, 9)
	shows(t, "written again", d.Kept, 0, 8)
	shows(t, "written again", d.Read, 1, 108)
	d.Crash()
	shows(t, "down", d.Kept, 0, 8)
}

// outside are numbers of no sector of a disk with n sectors.
func outside(n int) []int {
	return []int{-1, n, n + 1, math.MaxInt, math.MinInt, 1 << 32, -1 << 32}
}

// P6.1: Read's and Kept's errors: for Read, ErrDown ahead of ErrRange.
func TestReadErrors(t *testing.T) {
	d := made(t, 3)
	puts(t, d, 1, 2, 3)
	for range 2 {
		want := api.ErrRange
		if d.Down() {
			want = api.ErrDown
			if s, why := d.Read(0); s != "" || why != api.ErrDown {
				t.Errorf("Read of a disk that is down: %q %d", s, why)
			}
		}
		for _, at := range outside(3) {
			if s, why := d.Read(at); s != "" || why != want {
				t.Errorf("Read(%d) = %q %d, want %d", at, s, why, want)
			}
			if s, why := d.Kept(at); s != "" || why != api.ErrRange {
				t.Errorf("Kept(%d) = %q %d", at, s, why)
			}
		}
		d.Crash()
	}
}

// P6.2: Write's errors, in their order, and nothing is changed by one, not even the fuse.
func TestWriteErrors(t *testing.T) {
	d := made(t, 3)
	puts(t, d, 1)
	d.Fuse(0)
	for _, n := range []int{0, 1, 63, 65, 128} {
		if why := d.Write(2, string(make([]byte, n))); why != api.ErrLength {
			t.Errorf("Write of %d bytes = %d", n, why)
		}
	}
	for _, at := range outside(3) {
		for _, data := range []string{sector.Fill(7), "", "abc"} {
			if why := d.Write(at, data); why != api.ErrRange {
				t.Errorf("Write(%d) of %d bytes = %d", at, len(data), why)
			}
		}
	}
	if d.Down() || d.Done() != 1 || len(d.Waits()) != 1 {
		t.Fatalf("a rejected write has changed: down %t, done %d, waits %d", d.Down(), d.Done(), len(d.Waits()))
	}
	if why := d.Write(2, sector.Fill(7)); why != api.ErrDown || !d.Down() {
		t.Errorf("Write at the fuse's end = %d, down %t", why, d.Down())
	}
	for _, at := range []int{0, -1, 3} {
		for _, data := range []string{sector.Fill(7), ""} {
			if why := d.Write(at, data); why != api.ErrDown {
				t.Errorf("Write(%d) of %d bytes to a disk that is down = %d", at, len(data), why)
			}
		}
	}
	if why := d.Flush(); why != api.ErrDown {
		t.Errorf("Flush of a disk that is down = %d", why)
	}
}

// P6.2: Flush performs the pending writes in their order, and they are pending no more.
func TestFlush(t *testing.T) {
	d := made(t, 3)
	if why := d.Flush(); why != api.OK || d.Done() != 1 {
		t.Errorf("Flush of nothing = %d, done %d", why, d.Done())
	}
	puts(t, d, 1, 2)
	puts(t, d, 3)
	puts(t, d, 4)
	if d.Done() != 5 {
		t.Errorf("done %d", d.Done())
	}
	if why := d.Flush(); why != api.OK || len(d.Waits()) != 0 || d.Done() != 6 {
		t.Errorf("Flush = %d, waits %v, done %d", why, d.Waits(), d.Done())
	}
	for at, c := range []byte{4, 2, 0} {
		shows(t, "flushed", d.Kept, at, c)
		shows(t, "flushed", d.Read, at, c)
	}
}

// P6.2: with a fuse of n, n writes and flushes succeed, and at the next one the disk goes down and nothing else happens.
func TestFuse(t *testing.T) {
	for n := range 6 {
		d := made(t, 2)
		puts(t, d, 1)
		d.Flush()
		puts(t, d, 2)
		d.Fuse(n)
		var why api.Errno
		steps := 0
		for ; why == api.OK && steps < 20; steps++ {
			if steps%3 == 2 {
				why = d.Flush()
			} else {
				why = d.Write(1, sector.Fill(byte(100+steps)))
			}
		}
		if steps != n+1 || why != api.ErrDown || !d.Down() || d.Done() != 3+n {
			t.Errorf("fuse %d: step %d ended with %d, down %t, done %d", n, steps, why, d.Down(), d.Done())
		}
		if want := [...]int{1, 2, 3, 0, 1, 2}[n]; len(d.Waits()) != want {
			t.Errorf("fuse %d: waits %d, want %d", n, len(d.Waits()), want)
		}
		shows(t, "behind the fuse", d.Kept, 0, [...]byte{1, 1, 1, 2, 2, 2}[n])
	}
}

// P6.2: at the end of its fuse the disk keeps its pending writes: a Crash performs some, and Up loses them.
func TestFuseThenCrash(t *testing.T) {
	for _, flush := range []bool{false, true} {
		d := made(t, 3)
		puts(t, d, 1, 2, 3)
		d.Fuse(0)
		if flush {
			d.Flush()
		} else {
			d.Write(0, sector.Fill(9))
		}
		other := d.Copy()
		if len(d.Waits()) != 3 || d.Done() != 3 {
			t.Errorf("waits %v, done %d", d.Waits(), d.Done())
		}
		d.Crash(true, false, true, true)
		for at, c := range []byte{1, 0, 3} {
			shows(t, "crashed", d.Kept, at, c)
		}
		if why := other.Up(); why != api.OK || len(other.Waits()) != 0 {
			t.Errorf("Up = %d, waits %v", why, other.Waits())
		}
		for at := range 3 {
			shows(t, "up without a crash", other.Read, at, 0)
		}
		// The fuse is gone, and does not come back.
		if other.Write(0, sector.Fill(4)) != api.OK || other.Flush() != api.OK {
			t.Error("the disk went down again")
		}
	}
}

// P6.3: Fuse takes the place of the fuse before it, and is none if it is negative.
func TestFuseAgain(t *testing.T) {
	d := made(t, 1)
	for _, n := range []int{-1, -2, math.MinInt} {
		d.Fuse(0)
		d.Fuse(n)
		if d.Write(0, sector.Fill(1)) != api.OK || d.Flush() != api.OK {
			t.Errorf("Fuse(%d) has left a fuse", n)
		}
	}
	for _, n := range []int{2, 1000, math.MaxInt} {
		d.Fuse(0)
		d.Fuse(n)
		if d.Write(0, sector.Fill(1)) != api.OK || d.Flush() != api.OK {
			t.Errorf("Fuse(%d) was no longer than two", n)
		}
	}
	d.Fuse(5)
	d.Fuse(1)
	if d.Flush() != api.OK || d.Flush() != api.ErrDown {
		t.Error("Fuse(1) did not take the place of Fuse(5)")
	}
}

// P6.3: a Crash leaves no fuse, and neither does Up.
func TestFuseIsGone(t *testing.T) {
	d := made(t, 1)
	d.Fuse(0)
	d.Crash()
	if d.Up() != api.OK || d.Flush() != api.OK {
		t.Error("a Crash has left the fuse")
	}
	d.Crash()
	d.Fuse(0)
	if d.Up() != api.OK || d.Flush() != api.OK {
		t.Error("Up has left the fuse")
	}
}

// P6.3: Crash performs those of the pending writes that are kept, in their order.
func TestCrash(t *testing.T) {
	for keep := range 1 << 5 {
		for many := range 8 {
			d := made(t, 3)
			puts(t, d, 50, 51, 52)
			d.Flush()
			want := []byte{50, 51, 52}
			list := make([]bool, many)
			for i, at := range []int{0, 1, 0, 1, 0} {
				d.Write(at, sector.Fill(byte(i)))
				if i < many && keep>>i&1 == 1 {
					list[i] = true
					want[at] = byte(i)
				}
			}
			before := slices.Clone(list)
			d.Crash(list...)
			if !d.Down() || len(d.Waits()) != 0 || d.Done() != 9 || !slices.Equal(list, before) {
				t.Fatalf("Crash(%v): down %t, waits %v, done %d", list, d.Down(), d.Waits(), d.Done())
			}
			for at, c := range want {
				shows(t, "crashed", d.Kept, at, c)
			}
			d.Crash(true, true, true, true, true)
			if d.Up() != api.OK || d.Down() || d.Up() != api.ErrUp {
				t.Error("Up")
			}
			for at, c := range want {
				shows(t, "up", d.Read, at, c)
			}
		}
	}
}

// P6.3: Up of a disk that is up changes nothing.
func TestUp(t *testing.T) {
	d := made(t, 2)
	puts(t, d, 1)
	d.Fuse(1)
	if why := d.Up(); why != api.ErrUp || d.Down() || len(d.Waits()) != 1 {
		t.Errorf("Up = %d, down %t, waits %v", why, d.Down(), d.Waits())
	}
	shows(t, "up", d.Read, 0, 1)
	if d.Write(1, sector.Fill(2)) != api.OK || d.Flush() != api.ErrDown {
		t.Error("Up has taken the fuse")
	}
}

// P6.3: Waits returns the pending writes in their order, in a list of the caller's own.
func TestWaits(t *testing.T) {
	d := made(t, 3)
	want := []api.Put{{At: 2, Data: sector.Fill(1)}, {At: 0, Data: sector.Fill(2)}, {At: 2, Data: sector.Fill(1)}, {At: 2, Data: sector.Fill(3)}}
	for _, p := range want {
		d.Write(p.At, p.Data)
	}
	l := d.Waits()
	if !slices.Equal(l, want) {
		t.Errorf("Waits() = %v", l)
	}
	l[3] = api.Put{At: 1, Data: "x"}
	_ = append(l[:2], api.Put{At: 7})
	_ = append(l, api.Put{At: 9})
	d.Write(1, sector.Fill(4))
	if got := d.Waits(); !slices.Equal(got, append(want, api.Put{At: 1, Data: sector.Fill(4)})) {
		t.Errorf("a result is shared: %v", got)
	}
	shows(t, "behind Waits", d.Read, 2, 3)
}

// P6.3: Copy is the disk in all it has, and independent of it.
func TestCopy(t *testing.T) {
	d := made(t, 3)
	puts(t, d, 1, 2, 3)
	d.Flush()
	puts(t, d, 4)
	d.Fuse(1)
	other := d.Copy()
	if other.Len() != 3 || other.Down() || other.Done() != 5 || !slices.Equal(other.Waits(), d.Waits()) {
		t.Errorf("the copy: %d sectors, down %t, done %d, waits %v", other.Len(), other.Down(), other.Done(), other.Waits())
	}
	if other.Write(1, sector.Fill(5)) != api.OK || other.Flush() != api.ErrDown {
		t.Error("the copy has another fuse")
	}
	other.Crash(true, true)
	if d.Down() || len(d.Waits()) != 1 || d.Done() != 5 {
		t.Errorf("the disk: down %t, done %d, waits %v", d.Down(), d.Done(), d.Waits())
	}
	for at, c := range []byte{4, 2, 3} {
		shows(t, "the disk", d.Read, at, c)
	}
	if d.Write(2, sector.Fill(6)) != api.OK || d.Flush() != api.ErrDown {
		t.Error("the disk's fuse has changed")
	}
	d.Crash(false, true)
	for at, c := range []byte{4, 5, 3} {
		shows(t, "the copy", other.Kept, at, c)
	}
	for at, c := range []byte{1, 2, 6} {
		shows(t, "the disk", d.Kept, at, c)
	}
	if down := d.Copy(); !down.Down() || down.Up() != api.OK || !d.Down() {
		t.Error("the copy of a disk that is down")
	}
}

// P6.3: pending writes of a disk and of its copy go into lists of their own.
func TestCopyWaits(t *testing.T) {
	d := made(t, 1)
	for range 5 {
		puts(t, d, 1)
	}
	other := d.Copy()
	puts(t, d, 2)
	puts(t, other, 3)
	shows(t, "the disk", d.Read, 0, 2)
	shows(t, "the copy", other.Read, 0, 3)
}

// A nil disk.
func TestNil(t *testing.T) {
	var d *Disk
	d.Fuse(1)
	d.Crash()
	d.Crash(true, false)
	for _, at := range append(outside(0), 0) {
		if s, why := d.Read(at); s != "" || why != api.ErrNil {
			t.Errorf("Read(%d) = %q %d", at, s, why)
		}
		if s, why := d.Kept(at); s != "" || why != api.ErrNil {
			t.Errorf("Kept(%d) = %q %d", at, s, why)
		}
		if d.Write(at, sector.Zero()) != api.ErrNil || d.Write(at, "") != api.ErrNil {
			t.Errorf("Write(%d)", at)
		}
	}
	if d.Flush() != api.ErrNil || d.Up() != api.ErrNil || !d.Down() || d.Len() != 0 || d.Done() != 0 || len(d.Waits()) != 0 || d.Copy() != nil {
		t.Error("a nil disk")
	}
}

// A disk that New has not made has no sectors.
func TestZeroDisk(t *testing.T) {
	d := &Disk{}
	if _, why := d.Read(0); why != api.ErrRange || d.Write(0, sector.Zero()) != api.ErrRange || d.Flush() != api.OK || d.Len() != 0 {
		t.Error("a zero disk")
	}
	d.Crash(true)
	if !d.Down() || d.Up() != api.OK || d.Copy().Len() != 0 {
		t.Error("a zero disk that was down")
	}
}

// The iterator yields the pending writes, the last one first, and stops when it is told to.
func TestNewest(t *testing.T) {
	d := made(t, 4)
	puts(t, d, 1, 2, 3, 4)
	for range 2 {
		var l []int
		for p := range d.newest() {
			l = append(l, p.At)
			if p.At == 1 {
				break
			}
		}
		if !slices.Equal(l, []int{3, 2, 1}) {
			t.Errorf("yielded %v", l)
		}
	}
}

// model is the sectors of a disk, told anew from each call's definition.
type model struct {
	flushed []byte
	// later is, for each sector, what was written to it behind its last flush.
	later [][]byte
}

func (m *model) flush() {
	for at, l := range m.later {
		if len(l) > 0 {
			m.flushed[at], m.later[at] = l[len(l)-1], nil
		}
	}
}

func (m *model) now(at int) byte {
	if l := m.later[at]; len(l) > 0 {
		return l[len(l)-1]
	}
	return m.flushed[at]
}

// settle takes what the disk has behind Crash and Up, if it may have it.
func (m *model) settle(t *testing.T, d *Disk) {
	t.Helper()
	for at := range m.flushed {
		s, why := d.Read(at)
		if why != api.OK || s != sector.Fill(s[0]) || s[0] != m.flushed[at] && !slices.Contains(m.later[at], s[0]) {
			t.Fatalf("sector %d is %q %d, want %d or one of %v", at, s, why, m.flushed[at], m.later[at])
		}
		m.flushed[at], m.later[at] = s[0], nil
	}
}

// P6.4: behind Crash and Up each sector has its last flushed contents, or data that was written to it later; whatever calls there were.
func TestWhatIsKept(t *testing.T) {
	r := rand.New(rand.NewSource(6))
	for range 300 {
		n := 1 + r.Intn(5)
		d := made(t, n)
		m := &model{flushed: make([]byte, n), later: make([][]byte, n)}
		for range 100 {
			switch at, c := r.Intn(n), byte(r.Intn(256)); r.Intn(8) {
			case 0:
				if d.Flush() == api.OK {
					m.flush()
				}
			case 1:
				d.Fuse(r.Intn(12) - 1)
			case 2:
				keep := make([]bool, r.Intn(10))
				for i := range keep {
					keep[i] = r.Intn(2) == 1
				}
				d.Crash(keep...)
			default:
				if d.Write(at, sector.Fill(c)) == api.OK {
					m.later[at] = append(m.later[at], c)
				}
			}
			if d.Down() {
				if r.Intn(2) == 1 {
					d.Crash(true, false, true)
				}
				d.Up()
				m.settle(t, d)
			}
			for at := range n {
				shows(t, "now", d.Read, at, m.now(at))
				shows(t, "now", d.Kept, at, m.flushed[at])
			}
		}
	}
}
