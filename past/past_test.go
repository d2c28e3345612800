package past

import (
	"math"
	"math/rand"
	"slices"
	"strings"
	"testing"

	"pentimento/api"
)

// full is a sector of bytes c.
func full(c byte) string { return strings.Repeat(string([]byte{c}), 64) }

// fulls are sectors of these bytes.
func fulls(l ...byte) []string {
	var out []string
	for _, c := range l {
		out = append(out, full(c))
	}
	return out
}

// unfit are numbers of no sector among few.
func unfit() []int { return []int{-1, -2, 100, math.MinInt, math.MaxInt, 1 << 32} }

// writes has these sectors written to one.
func writes(t *testing.T, p *Past, i int, l ...byte) {
	t.Helper()
	for _, c := range l {
		if why := p.Write(i, full(c)); why != api.OK {
			t.Fatalf("Write(%d, %d) = %d", i, c, why)
		}
	}
}

// has tells if a sector may not have just these, of which the last one is its last.
func has(t *testing.T, p *Past, i int, l ...byte) {
	t.Helper()
	for c := range 256 {
		if is := slices.Contains(l, byte(c)); p.May(i, full(byte(c))) != is {
			t.Errorf("May(%d, %d) = %v", i, c, !is)
		}
	}
	if s, why := p.Last(i); s != full(l[len(l)-1]) || why != api.OK {
		t.Errorf("Last(%d) = %q %d, want bytes %d", i, s, why, l[len(l)-1])
	}
}

// sealed tells if the image of an epoch is not this one.
func sealed(t *testing.T, p *Past, epoch uint64, l ...byte) {
	t.Helper()
	if image, why := p.Image(epoch); !slices.Equal(image, fulls(l...)) || why != api.OK {
		t.Errorf("Image(%d) = %q %d, want bytes %d", epoch, image, why, l)
	}
}

// P26.1: what New is given, and no more.
func TestNew(t *testing.T) {
	p := New(fulls(3, 1, 4)...)
	has(t, p, 0, 3)
	has(t, p, 1, 1)
	has(t, p, 2, 4)
	if l := p.Epochs(); len(l) > 0 {
		t.Errorf("Epochs = %v", l)
	}
	for _, p := range []*Past{New(), New(nil...), {}} {
		if _, why := p.Last(0); why != api.ErrRange {
			t.Errorf("Last = %d", why)
		}
		p.Flush()
		if why := p.Crash(); why != api.OK {
			t.Errorf("Crash = %d", why)
		}
		if why := p.Seal(1); why != api.OK {
			t.Errorf("Seal = %d", why)
		}
		sealed(t, p, 1)
	}
	// New takes what is no sector as well.
	p = New("", "a")
	if s, why := p.Last(1); s != "a" || why != api.OK || !p.May(0, "") || p.May(0, "a") {
		t.Errorf("Last = %q %d", s, why)
	}
}

// P26.1: Write, each behind the others, and to its sector alone.
func TestWrite(t *testing.T) {
	p := New(fulls(0, 0)...)
	writes(t, p, 1, 7, 8, 9)
	has(t, p, 0, 0)
	has(t, p, 1, 0, 7, 8, 9)
	writes(t, p, 1, 7)
	has(t, p, 1, 0, 8, 9, 7)
	writes(t, p, 1, 0)
	has(t, p, 1, 7, 8, 9, 0)
}

// P26.1: what Write rejects, in its order, changes nothing.
func TestWriteRejects(t *testing.T) {
	p := New(fulls(0, 0)...)
	writes(t, p, 0, 1)
	for _, data := range []string{full(5), "", "a"} {
		for _, i := range append(unfit(), 2) {
			if why := p.Write(i, data); why != api.ErrRange {
				t.Errorf("Write(%d) = %d", i, why)
			}
		}
	}
	for _, data := range []string{"", "a", full(5)[1:], full(5) + "\x05"} {
		if why := p.Write(1, data); why != api.ErrLength || p.May(1, data) {
			t.Errorf("Write(%q) = %d", data, why)
		}
	}
	has(t, p, 0, 0, 1)
	has(t, p, 1, 0)
}

// P26.1: Flush leaves the last ones alone, of each sector.
func TestFlush(t *testing.T) {
	p := New(fulls(0, 0, 0)...)
	writes(t, p, 0, 1, 2, 3)
	writes(t, p, 2, 5, 0)
	p.Flush()
	has(t, p, 0, 3)
	has(t, p, 1, 0)
	has(t, p, 2, 0)
	p.Flush()
	writes(t, p, 0, 2)
	has(t, p, 0, 3, 2)
	has(t, p, 1, 0)
}

// P26.1: Crash with any of the possible contents.
func TestCrash(t *testing.T) {
	for _, c := range []byte{0, 1, 2, 3} {
		p := New(fulls(0, 9)...)
		writes(t, p, 0, 1, 2, 3)
		if why := p.Crash(full(c), full(9)); why != api.OK {
			t.Errorf("Crash(%d) = %d", c, why)
		}
		has(t, p, 0, c)
		has(t, p, 1, 9)
		// What comes behind has nothing of what was.
		writes(t, p, 0, 7)
		has(t, p, 0, c, 7)
	}
	// One that was written twice.
	p := New(full(0))
	writes(t, p, 0, 1, 2, 1, 3)
	if why := p.Crash(full(1)); why != api.OK {
		t.Errorf("Crash = %d", why)
	}
	has(t, p, 0, 1)
}

// P26.1: what Crash rejects, in its order, changes nothing, wherever the fault is.
func TestCrashRejects(t *testing.T) {
	p := New(fulls(0, 0, 0)...)
	writes(t, p, 0, 1)
	writes(t, p, 1, 2)
	for _, l := range [][]byte{{}, {0}, {0, 0}, {0, 0, 0, 0}, {9, 9}, {1, 2, 0, 9}} {
		if why := p.Crash(fulls(l...)...); why != api.ErrLong {
			t.Errorf("Crash(%d) = %d", l, why)
		}
	}
	for _, l := range [][]byte{{2, 0, 0}, {0, 1, 0}, {1, 2, 1}, {0, 0, 9}, {9, 9, 9}} {
		if why := p.Crash(fulls(l...)...); why != api.ErrNone {
			t.Errorf("Crash(%d) = %d", l, why)
		}
	}
	if why := p.Crash(full(0), "", full(0)); why != api.ErrNone {
		t.Errorf("Crash = %d", why)
	}
	has(t, p, 0, 0, 1)
	has(t, p, 1, 0, 2)
	has(t, p, 2, 0)
}

// P26.1: May and Last of no sector.
func TestNoSector(t *testing.T) {
	p := New(fulls(0, 0)...)
	for _, i := range append(unfit(), 2) {
		if p.May(i, full(0)) || p.May(i, "") {
			t.Errorf("May(%d) = true", i)
		}
		if s, why := p.Last(i); s != "" || why != api.ErrRange {
			t.Errorf("Last(%d) = %q %d", i, s, why)
		}
	}
}

// P26.2: epochs, and what was last when they were sealed.
func TestSeal(t *testing.T) {
	p := New(fulls(0, 5)...)
	writes(t, p, 0, 1)
	for i, epoch := range []uint64{1, 2, 9, 1 << 48, math.MaxUint64 - 1, math.MaxUint64} {
		if why := p.Seal(epoch); why != api.OK {
			t.Fatalf("Seal(%d) = %d", epoch, why)
		}
		writes(t, p, 0, byte(i+2))
	}
	for i, epoch := range []uint64{1, 2, 9, 1 << 48, math.MaxUint64 - 1, math.MaxUint64} {
		sealed(t, p, epoch, byte(i+1), 5)
	}
	if l := p.Epochs(); !slices.Equal(l, []uint64{1, 2, 9, 1 << 48, math.MaxUint64 - 1, math.MaxUint64}) {
		t.Errorf("Epochs = %v", l)
	}
	// A seal flushes nothing, and nothing that happens changes an image.
	has(t, p, 0, 0, 1, 2, 3, 4, 5, 6, 7)
	p.Flush()
	if why := p.Crash(fulls(7, 5)...); why != api.OK {
		t.Errorf("Crash = %d", why)
	}
	sealed(t, p, 1, 1, 5)
	sealed(t, p, math.MaxUint64, 6, 5)
}

// P26.2: what Seal rejects changes nothing; no image of what was not sealed.
func TestSealRejects(t *testing.T) {
	p := New(full(0))
	if why := p.Seal(0); why != api.ErrEpoch {
		t.Errorf("Seal(0) = %d", why)
	}
	if why := p.Seal(5); why != api.OK {
		t.Errorf("Seal(5) = %d", why)
	}
	writes(t, p, 0, 1)
	for epoch := range uint64(6) {
		if why := p.Seal(epoch); why != api.ErrEpoch {
			t.Errorf("Seal(%d) = %d", epoch, why)
		}
	}
	for _, epoch := range []uint64{0, 1, 4, 6, math.MaxUint64} {
		if image, why := p.Image(epoch); len(image) > 0 || why != api.ErrNone {
			t.Errorf("Image(%d) = %q %d", epoch, image, why)
		}
	}
	sealed(t, p, 5, 0)
	if l := p.Epochs(); !slices.Equal(l, []uint64{5}) {
		t.Errorf("Epochs = %v", l)
	}
	if why := p.Seal(6); why != api.OK {
		t.Errorf("Seal(6) = %d", why)
	}
	sealed(t, p, 6, 1)
}

// P26.1, P26.2: a past that is not there.
func TestNil(t *testing.T) {
	var p *Past
	p.Flush()
	for what, why := range map[string]api.Errno{"Write": p.Write(0, full(0)), "Write of nothing": p.Write(-1, ""), "Crash": p.Crash(), "Seal": p.Seal(0)} {
		if why != api.ErrNil {
			t.Errorf("%s = %d", what, why)
		}
	}
	if s, why := p.Last(0); s != "" || why != api.ErrNil {
		t.Errorf("Last = %q %d", s, why)
	}
	if l, why := p.Image(1); len(l) > 0 || why != api.ErrNil {
		t.Errorf("Image = %q %d", l, why)
	}
	if p.May(0, "") || len(p.Epochs()) > 0 {
		t.Error("there is something")
	}
}

// P26.1, P26.2: lists are neither kept nor shared (rules 4 and 5).
func TestMemory(t *testing.T) {
	l := fulls(1, 2)
	p := New(l...)
	l[0] = full(9)
	has(t, p, 0, 1)
	l[0] = full(1)
	if why := p.Crash(l...); why != api.OK || !slices.Equal(l, fulls(1, 2)) {
		t.Errorf("Crash = %d", why)
	}
	l[1] = full(9)
	has(t, p, 1, 2)
	p.Seal(3)
	p.Seal(4)
	image, _ := p.Image(3)
	image[0] = full(9)
	_ = append(image[:1], full(8))
	sealed(t, p, 3, 1, 2)
	epochs := p.Epochs()
	epochs[0] = 7
	_ = append(epochs[:1], 8)
	if l := p.Epochs(); !slices.Equal(l, []uint64{3, 4}) {
		t.Errorf("Epochs = %v", l)
	}
}

// P26.1: lists that were cut from one another share nothing that shows: what is written behind a Flush or Crash comes over nothing.
func TestCuts(t *testing.T) {
	p := New(full(0))
	writes(t, p, 0, 1, 2, 3, 4, 5)
	if why := p.Crash(full(2)); why != api.OK {
		t.Fatal(why)
	}
	writes(t, p, 0, 6)
	has(t, p, 0, 2, 6)
	writes(t, p, 0, 7, 8)
	p.Flush()
	writes(t, p, 0, 9)
	has(t, p, 0, 8, 9)
}

// The chapter's example.
func TestExample(t *testing.T) {
	p := New(full(0))
	writes(t, p, 0, 1)
	has(t, p, 0, 0, 1)
	p.Flush()
	has(t, p, 0, 1)
}

// model is a past by the definition's words: of each sector a set, and a last one.
type model struct {
	may  []map[byte]bool
	last []byte
}

// agree tells if a past is not as its model.
func (m *model) agree(t *testing.T, p *Past) {
	t.Helper()
	for i := range m.may {
		for c := range byte(8) {
			if p.May(i, full(c)) != m.may[i][c] {
				t.Fatalf("May(%d, %d) = %v", i, c, !m.may[i][c])
			}
		}
		if s, why := p.Last(i); s != full(m.last[i]) || why != api.OK || !p.May(i, s) {
			t.Fatalf("Last(%d) = %q %d, want bytes %d", i, s, why, m.last[i])
		}
	}
}

// random does something by chance to both.
func (m *model) random(t *testing.T, r *rand.Rand, p *Past) {
	t.Helper()
	switch k := r.Intn(10); {
	case k < 7:
		i, c := r.Intn(len(m.may)), byte(r.Intn(8))
		writes(t, p, i, c)
		m.may[i][c], m.last[i] = true, c
	case k < 8:
		p.Flush()
		m.flush()
	default:
		found, can := make([]byte, len(m.may)), api.OK
		for i := range found {
			found[i] = byte(r.Intn(8))
			for r.Intn(8) > 0 && !m.may[i][found[i]] {
				found[i] = byte(r.Intn(8))
			}
			if !m.may[i][found[i]] {
				can = api.ErrNone
			}
		}
		if why := p.Crash(fulls(found...)...); why != can {
			t.Fatalf("Crash = %d, want %d", why, can)
		}
		for i, c := range found {
			if can == api.OK {
				m.may[i], m.last[i] = map[byte]bool{c: true}, c
			}
		}
	}
}

// started is a past of sectors of bytes 1 and up, and its model.
func started(n int) (*Past, *model) {
	m := &model{}
	for i := range n {
		m.may, m.last = append(m.may, map[byte]bool{byte(i + 1): true}), append(m.last, byte(i+1))
	}
	return New(fulls(m.last...)...), m
}

// flush leaves the model what is last.
func (m *model) flush() {
	for i, c := range m.last {
		m.may[i] = map[byte]bool{c: true}
	}
}

// P26.1, P26.3: rows by chance: what is last is possible; and at their ends a Crash with what is last is as a Flush, whatever comes then.
func TestRows(t *testing.T) {
	for n := range int64(200) {
		var pasts [2]*Past
		for i := range pasts {
			p, m := started(1 + int(n%3))
			r := rand.New(rand.NewSource(n))
			for range 1 + r.Intn(40) {
				m.random(t, r, p)
				m.agree(t, p)
			}
			if i == 0 {
				p.Flush()
			} else if why := p.Crash(fulls(m.last...)...); why != api.OK {
				t.Fatalf("Crash = %d", why)
			}
			m.flush()
			m.agree(t, p)
			for range 40 {
				m.random(t, r, p)
				m.agree(t, p)
			}
			if why := p.Seal(1); why != api.OK {
				t.Fatalf("Seal = %d", why)
			}
			sealed(t, p, 1, m.last...)
			pasts[i] = p
		}
		a, _ := pasts[0].Image(1)
		b, _ := pasts[1].Image(1)
		if !slices.Equal(a, b) {
			t.Fatalf("Image = %q, and %q", a, b)
		}
	}
}
