package take

import (
	"crypto/sha256"
	"encoding/binary"
	"hash/crc32"
	"slices"
	"strings"
	"testing"

	"pentimento/api"
	"pentimento/disk"
	"pentimento/mirror"
)

// This file has the target's part once more, by the document's words, with a walk of its own: what the package does is held against it.

// num is a number in so many bytes.
func num(width int, n uint64) string {
	return string(binary.BigEndian.AppendUint64(nil, n)[8-width:])
}

// raw is the sector of a record with this kind and body.
func raw(kind byte, body string) string {
	full := string([]byte{kind, byte(len(body))}) + body
	full += strings.Repeat("\x00", 60-len(full))
	return full + num(4, uint64(crc32.Checksum([]byte(full), crc32.MakeTable(crc32.Castagnoli))))
}

// of is a digest by the library.
func of(mark byte, parts ...string) string {
	d := sha256.Sum256([]byte(string([]byte{mark}) + strings.Join(parts, "")))
	return string(d[:])
}

// below returns the children of each node, of leaves none: by the definition's words, level by level.
func below(g api.Geom) [][]int {
	out := make([][]int, g.N)
	level := make([]int, g.N)
	for i := range level {
		level[i] = i
	}
	for len(level) > 1 {
		var next []int
		for len(level) > 0 {
			k := min(g.F, len(level))
			next = append(next, len(out))
			out = append(out, level[:k])
			level = level[k:]
		}
		level = next
	}
	return out
}

// digests are those of the tree of sectors.
func digests(g api.Geom, sectors []string) []string {
	var out []string
	for i, children := range below(g) {
		if i < g.N {
			out = append(out, of(0, sectors[i]))
		} else {
			out = append(out, of(1, parts(out, children)...))
		}
	}
	return out
}

// root is that of the tree of sectors.
func root(g api.Geom, sectors []string) string {
	all := digests(g, sectors)
	return all[len(all)-1]
}

// parts are the elements of a list at these places.
func parts(list []string, at []int) []string {
	var out []string
	for _, i := range at {
		out = append(out, list[i])
	}
	return out
}

// seen is a node that the walk found, with the digest that it has at the source.
type seen struct {
	node   int
	digest string
}

// model is a taker, of a volume of its own.
type model struct {
	c api.Config
	d *disk.Disk
	v *mirror.Volume
	// The session, the epoch acknowledged in it, and the one to which a walk goes on.
	session, acked, epoch uint64
	busy                  bool
	// The digests ahead of the walk, and what that found: nodes, and leaves.
	own               []string
	asks, wants       []seen
	asked, told, came int
	seq               uint32
}

// find finds a node if it differs.
func (m *model) find(node int, digest string) {
	switch {
	case m.own[node] == digest:
	case node < m.c.G.N:
		m.wants = append(m.wants, seen{node, digest})
	default:
		m.asks = append(m.asks, seen{node, digest})
	}
}

// next is what is awaited: its kind as the frame's, and where.
func (m *model) next() (int, int) {
	switch {
	case len(m.asks) > 0:
		return 3, m.asks[0].node
	case len(m.wants) > 0:
		return 5, m.wants[0].node
	}
	return 0, 0
}

// frame is one frame that is returned.
func (m *model) frame(f api.Frame) []api.Frame {
	f.Seq = m.seq
	m.seq++
	return []api.Frame{f}
}

// awaits is the frame of what is awaited.
func (m *model) awaits() []api.Frame {
	kind, index := m.next()
	if kind == 0 {
		return nil
	}
	return m.frame(api.Frame{Kind: kind, Session: m.session, Epoch: m.epoch, Index: index})
}

// refuse is a Refuse, and the error that it tells.
func (m *model) refuse(f api.Frame, why api.Errno) ([]api.Frame, api.Errno) {
	return m.frame(api.Frame{Kind: 2, Session: f.Session, Epoch: f.Epoch, Code: int(why)}), why
}

// ack is an Ack.
func (m *model) ack(f api.Frame) ([]api.Frame, api.Errno) {
	m.acked = f.Epoch
	return m.frame(api.Frame{Kind: 7, Session: f.Session, Epoch: f.Epoch}), 0
}

// giveUp is what the taker does when there is no hope.
func (m *model) giveUp(f api.Frame, why api.Errno) ([]api.Frame, api.Errno) {
	if back := m.v.Back(); back != 0 {
		return nil, back
	}
	m.busy = false
	return m.refuse(f, why)
}

// proceed is what is done behind each step of the walk.
func (m *model) proceed(f api.Frame) ([]api.Frame, api.Errno) {
	if kind, _ := m.next(); kind != 0 {
		return m.awaits(), 0
	}
	switch why := m.v.Finish(); why {
	case 0:
		m.busy = false
		return m.ack(f)
	case 19, 15:
		return m.giveUp(f, why)
	default:
		return nil, why
	}
}

// take is what Take does.
func (m *model) take(f api.Frame) ([]api.Frame, api.Errno) {
	switch {
	case f.Kind == 1:
		return m.hello(f)
	case f.Kind != 4 && f.Kind != 6:
		return nil, 22
	case f.Session != m.v.State().Session:
		return nil, 16
	case !m.busy:
		return nil, 17
	case f.Epoch != m.epoch:
		return nil, 14
	case f.Kind == 4:
		return m.nodes(f)
	}
	return m.data(f)
}

// hello is what is done with an offer.
func (m *model) hello(f api.Frame) ([]api.Frame, api.Errno) {
	s := m.v.State()
	if f.Session < s.Session {
		return nil, 16
	}
	if f.Vol != m.c.Vol {
		return m.refuse(f, 13)
	}
	if f.N != m.c.G.N || f.F != m.c.G.F {
		return m.refuse(f, 12)
	}
	if m.busy && f.Session == m.session && f.Epoch == m.epoch {
		return m.awaits(), 0
	}
	if m.busy {
		if why := m.v.Back(); why != 0 {
			return nil, why
		}
		m.busy = false
	}
	if why := m.v.Session(f.Session); why != 0 {
		return nil, why
	}
	if f.Session != m.session {
		m.session, m.acked = f.Session, 0
	}
	if f.Epoch < s.Epoch {
		return m.refuse(f, 14)
	}
	if f.Epoch == s.Epoch {
		if f.Data != s.Root {
			return m.refuse(f, 15)
		}
		return m.ack(f)
	}
	if why := m.v.Begin(f.Epoch, f.Data); why == 14 || why == 4 || why == 11 {
		return m.refuse(f, why)
	} else if why != 0 {
		return nil, why
	}
	m.busy, m.epoch, m.own = true, f.Epoch, m.v.Tree().All()
	m.asks, m.wants, m.asked, m.told, m.came = nil, nil, 0, 0, 0
	m.find(len(m.own)-1, f.Data)
	return m.proceed(f)
}

// nodes is what is done with digests.
func (m *model) nodes(f api.Frame) ([]api.Frame, api.Errno) {
	kind, index := m.next()
	if kind != 3 || index != f.Index {
		return nil, 17
	}
	children := below(m.c.G)[index]
	if len(f.List) != len(children) {
		return nil, 8
	}
	if of(1, f.List...) != m.asks[0].digest {
		return m.giveUp(f, 18)
	}
	m.asks = m.asks[1:]
	for i, child := range children {
		m.find(child, f.List[i])
	}
	m.asked++
	m.told += len(children)
	return m.proceed(f)
}

// data is what is done with a sector.
func (m *model) data(f api.Frame) ([]api.Frame, api.Errno) {
	kind, index := m.next()
	if kind != 5 || index != f.Index {
		return nil, 17
	}
	if len(f.Data) != 64 {
		return nil, 4
	}
	if of(0, f.Data) != m.wants[0].digest {
		return m.giveUp(f, 18)
	}
	m.wants = m.wants[1:]
	m.came++
	switch why := m.v.Apply(index, f.Data); why {
	case 0:
		return m.proceed(f)
	case 19:
		return m.giveUp(f, why)
	default:
		return nil, why
	}
}

// tick is what Tick does.
func (m *model) tick() []api.Frame {
	if m.busy {
		return m.awaits()
	}
	if m.acked > 0 {
		return m.frame(api.Frame{Kind: 7, Session: m.session, Epoch: m.acked})
	}
	return nil
}

// state is what State returns.
func (m *model) state() State {
	s := State{Acked: m.acked, Asked: m.asked, Told: m.told, Came: m.came}
	if m.busy {
		s.Busy, s.Epoch = true, m.epoch
		s.Kind, s.Index = m.next()
		// A frame's kind is another one than the walk's.
		s.Kind = map[int]int{0: 0, 3: 1, 5: 2}[s.Kind]
	}
	return s
}

// alike reports whether two frames are.
func alike(a, b api.Frame) bool {
	return a.Kind == b.Kind && a.Session == b.Session && a.Epoch == b.Epoch && a.Seq == b.Seq && a.Vol == b.Vol && a.N == b.N && a.F == b.F &&
		a.Index == b.Index && a.Code == b.Code && a.Data == b.Data && slices.Equal(a.List, b.List)
}

// made returns a disk with n sectors.
func made(t *testing.T, n int) *disk.Disk {
	t.Helper()
	d, why := disk.New(n)
	if why != api.OK {
		t.Fatalf("disk.New(%d) = %d", n, why)
	}
	return d
}

// opened opens a disk's volume.
func opened(t *testing.T, d *disk.Disk) *mirror.Volume {
	t.Helper()
	v, why := mirror.Open(d)
	if v == nil || why != api.OK {
		t.Fatalf("Open = %v %d", v, why)
	}
	return v
}

// same tells if a disk is not as another one, with its pending writes.
func same(t *testing.T, what string, d, want *disk.Disk) {
	t.Helper()
	if d.Done() != want.Done() || d.Down() != want.Down() || !slices.Equal(d.Waits(), want.Waits()) {
		t.Fatalf("%s: done %d, want %d; down %t, want %t; waits %v, want %v", what, d.Done(), want.Done(), d.Down(), want.Down(), d.Waits(), want.Waits())
	}
	for at := range want.Len() {
		a, _ := d.Kept(at)
		b, _ := want.Kept(at)
		if a != b {
			t.Fatalf("%s: sector %d is %q, want %q", what, at, a, b)
		}
	}
}
