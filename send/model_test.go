package send

import (
	"crypto/sha256"
	"encoding/binary"
	"hash/crc32"
	"slices"
	"strings"
	"testing"

	"pentimento/api"
	"pentimento/disk"
	"pentimento/origin"
)

// This file has the source's part once more, by the document's words: what the package does is held against it.

// num is a number in so many bytes.
func num(width int, n uint64) string {
	return string(binary.BigEndian.AppendUint64(nil, n)[8-width:])
}

// raw is the sector of a record with this kind and body.
func raw(kind byte, body string) string {
	full := string([]byte{kind, byte(len(body))}) + body
	full += strings.Repeat("\x00", 60-len(full))
	return full + num(4, uint64(crc32.Checksum([]byte(full), crc32.MakeTable(crc32.Castagnoli))))
}

// of is a digest by the library.
func of(mark byte, parts ...string) string {
	d := sha256.Sum256([]byte(string([]byte{mark}) + strings.Join(parts, "")))
	return string(d[:])
}

// below returns the children of each node, of leaves none: by the definition's words, level by level.
func below(g api.Geom) [][]int {
	out := make([][]int, g.N)
	level := make([]int, g.N)
	for i := range level {
		level[i] = i
	}
	for len(level) > 1 {
		var next []int
		for len(level) > 0 {
			k := min(g.F, len(level))
			next = append(next, len(out))
			out = append(out, level[:k])
			level = level[k:]
		}
		level = next
	}
	return out
}

// digests are those of the tree of sectors.
func digests(g api.Geom, sectors []string) []string {
	var out []string
	for i, children := range below(g) {
		if i < g.N {
			out = append(out, of(0, sectors[i]))
		} else {
			out = append(out, of(1, parts(out, children)...))
		}
	}
	return out
}

// root is that of the tree of sectors.
func root(g api.Geom, sectors []string) string {
	all := digests(g, sectors)
	return all[len(all)-1]
}

// parts are the elements of a list at these places.
func parts(list []string, at []int) []string {
	var out []string
	for _, i := range at {
		out = append(out, list[i])
	}
	return out
}

// model is a sender, of a volume of its own.
type model struct {
	c api.Config
	d *disk.Disk
	v *origin.Volume
	// The sectors of the volume, and those of its last epoch.
	now, shot []string
	begun     uint64
	state     State
	seq       uint32
}

// next is the session's next frame, with what f has beside that.
func (m *model) next(f api.Frame) api.Frame {
	f.Session, f.Epoch, f.Seq = m.state.Session, m.state.Epoch, m.seq
	m.seq++
	return f
}

// hello is the offer.
func (m *model) hello() api.Frame {
	return m.next(api.Frame{Kind: 1, Vol: m.c.Vol, N: m.c.G.N, F: m.c.G.F, Data: root(m.c.G, m.shot)})
}

// connect is what Connect does.
func (m *model) connect() (api.Frame, api.Errno) {
	s := m.v.State()
	if s.Open == 0 {
		return api.Frame{}, 20
	}
	if m.begun == 65535 {
		return api.Frame{}, 11
	}
	m.begun++
	m.state = State{Session: s.Boot*65536 + m.begun, Epoch: s.Open, Phase: 1}
	m.seq = 0
	return m.hello(), 0
}

// take is what Take does.
func (m *model) take(f api.Frame) ([]api.Frame, api.Errno) {
	switch {
	case m.begun == 0 || f.Session != m.state.Session:
		return nil, 16
	case m.state.Phase != 1:
		return nil, 17
	case f.Epoch != m.state.Epoch:
		return nil, 14
	}
	switch f.Kind {
	case 3, 5:
		if m.v.State().Open != m.state.Epoch {
			m.state.Phase = 0
			return nil, 20
		}
		return m.tell(f)
	case 7:
		why := m.v.Ack(m.state.Epoch)
		if why == 0 {
			m.state.Phase = 2
		}
		return nil, why
	case 2:
		m.state.Phase, m.state.Code = 3, f.Code
		return nil, 0
	}
	return nil, 22
}

// tell is what is answered to Ask and Want, while the snapshot is there.
func (m *model) tell(f api.Frame) ([]api.Frame, api.Errno) {
	tree := below(m.c.G)
	least, most := m.c.G.N, len(tree)
	if f.Kind == 5 {
		least, most = 0, m.c.G.N
	}
	if f.Index < least || f.Index >= most {
		return nil, 3
	}
	if f.Kind == 3 {
		if m.d.Down() {
			return nil, 5
		}
		return []api.Frame{m.next(api.Frame{Kind: 4, Index: f.Index, List: parts(digests(m.c.G, m.shot), tree[f.Index])})}, 0
	}
	// What is preserved is known without the disk.
	if _, why := m.v.Snap(f.Index); why != 0 {
		return nil, why
	}
	return []api.Frame{m.next(api.Frame{Kind: 6, Index: f.Index, Data: m.shot[f.Index]})}, 0
}

// tick is what Tick does.
func (m *model) tick() []api.Frame {
	if m.state.Phase != 1 {
		return nil
	}
	if m.v.State().Open != m.state.Epoch {
		m.state.Phase = 0
		return nil
	}
	return []api.Frame{m.hello()}
}

// alike reports whether two frames are.
func alike(a, b api.Frame) bool {
	return a.Kind == b.Kind && a.Session == b.Session && a.Epoch == b.Epoch && a.Seq == b.Seq && a.Vol == b.Vol && a.N == b.N && a.F == b.F &&
		a.Index == b.Index && a.Code == b.Code && a.Data == b.Data && slices.Equal(a.List, b.List)
}

// made returns a disk with n sectors.
func made(t *testing.T, n int) *disk.Disk {
	t.Helper()
	d, why := disk.New(n)
	if why != api.OK {
		t.Fatalf("disk.New(%d) = %d", n, why)
	}
	return d
}

// opened opens a disk's volume.
func opened(t *testing.T, d *disk.Disk) *origin.Volume {
	t.Helper()
	v, why := origin.Open(d)
	if v == nil || why != api.OK {
		t.Fatalf("Open = %v %d", v, why)
	}
	return v
}

// same tells if a disk is not as another one, with its pending writes.
func same(t *testing.T, what string, d, want *disk.Disk) {
	t.Helper()
	if d.Done() != want.Done() || d.Down() != want.Down() || !slices.Equal(d.Waits(), want.Waits()) {
		t.Fatalf("%s: done %d, want %d; down %t, want %t; waits %v, want %v", what, d.Done(), want.Done(), d.Down(), want.Down(), d.Waits(), want.Waits())
	}
	for at := range want.Len() {
		a, _ := d.Kept(at)
		b, _ := want.Kept(at)
		if a != b {
			t.Fatalf("%s: sector %d is %q, want %q", what, at, a, b)
		}
	}
}
