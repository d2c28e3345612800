package origin

import (
	"crypto/sha256"
	"encoding/binary"
	"hash/crc32"
	"math/rand"
	"slices"
	"strings"
	"testing"

	"pentimento/api"
	"pentimento/disk"
)

// This file has the source's volume once more, by the document's words, in plain bytes: what the package does is held against it.

// The kinds of records.
const (
	kindSuper = 1
	kindBoot  = 2
	kindEpoch = 3
	kindDirty = 5
	kindNode  = 6
	kindCow   = 8
)

// num is a number in so many bytes.
func num(width int, n uint64) string {
	return string(binary.BigEndian.AppendUint64(nil, n)[8-width:])
}

// sum is the checksum by the library.
func sum(s string) uint64 {
	return uint64(crc32.Checksum([]byte(s), crc32.MakeTable(crc32.Castagnoli)))
}

// raw is the sector of a record with this kind and body.
func raw(kind byte, body string) string {
	full := string([]byte{kind, byte(len(body))}) + body
	full += strings.Repeat("\x00", 60-len(full))
	return full + num(4, sum(full))
}

// body is that of the record that a sector has, and nothing if it has none of this kind.
func body(kind byte, data string) string {
	if data[0] != kind || data[1] > 58 || raw(kind, data[2:2+data[1]]) != data {
		return ""
	}
	return data[2 : 2+data[1]]
}

// super is the sector of a side's volume.
func super(side byte, c api.Config) string {
	b := string([]byte{side}) + num(4, uint64(c.Vol)) + num(2, uint64(c.G.N)) + num(1, uint64(c.G.F))
	return raw(kindSuper, b+num(2, uint64(c.G.Cow))+num(2, uint64(c.G.Undo))+num(8, c.Last))
}

// shape is the first node of each level, and behind these the number of all nodes.
func shape(g api.Geom) []int {
	out, n := []int{0, g.N}, g.N
	for n > 1 {
		n = (n + g.F - 1) / g.F
		out = append(out, out[len(out)-1]+n)
	}
	return out
}

// count is how many nodes there are.
func count(g api.Geom) int { return slices.Max(shape(g)) }

// family is a node's children.
func family(g api.Geom, node int) []int {
	s := shape(g)
	var out []int
	for level := 1; level < len(s)-1; level++ {
		for child := s[level-1]; child < s[level]; child++ {
			if s[level]+(child-s[level-1])/g.F == node {
				out = append(out, child)
			}
		}
	}
	return out
}

// hash is the digest of bytes behind a first one, that of leaves or of other nodes.
func hash(first byte, s string) string {
	d := sha256.Sum256([]byte(string([]byte{first}) + s))
	return string(d[:])
}

// digests are those of the tree of sectors.
func digests(g api.Geom, sectors []string) []string {
	var out []string
	for node := range count(g) {
		if node < g.N {
			out = append(out, hash(0, sectors[node]))
			continue
		}
		all := ""
		for _, child := range family(g, node) {
			all += out[child]
		}
		out = append(out, hash(1, all))
	}
	return out
}

// root is that of the tree of sectors.
func root(g api.Geom, sectors []string) string { return digests(g, sectors)[count(g)-1] }

// areaAt is where sector k of the area is, and size how many sectors the source's disk has.
func areaAt(g api.Geom, k int) int { return 6 + g.N + count(g) + k }
func size(g api.Geom) int          { return areaAt(g, 2*g.Cow) }

// op is a write, or a flush of all writes.
type op struct {
	flush bool
	put   api.Put
}

// write and sync are an op each, save is a write and a flush.
func write(at int, data string) op { return op{put: api.Put{At: at, Data: data}} }
func sync() op                     { return op{flush: true} }
func save(at int, data string) []op {
	return []op{write(at, data), sync()}
}

// step is ops, and what a volume knows behind them.
type step struct {
	ops  []op
	then func()
}

// model is a volume, and what its disk is like.
type model struct {
	c                                  api.Config
	d                                  *disk.Disk
	boot, bootSeq, epoch, acked, epSeq uint64
	root                               string
	now, frozen                        [128]bool
	open                               uint64
	kept                               []api.Entry
}

// run performs steps on the model's disk, up to the first op that fails.
func (m *model) run(steps ...step) api.Errno {
	for _, s := range steps {
		for _, o := range s.ops {
			why := api.OK
			if o.flush {
				why = m.d.Flush()
			} else {
				why = m.d.Write(o.put.At, o.put.Data)
			}
			if why != api.OK {
				return why
			}
		}
		if s.then != nil {
			s.then()
		}
	}
	return api.OK
}

// words is a set's encoding.
func words(set [128]bool) string {
	var w [2]uint64
	for i, is := range set {
		if is {
			w[i/64] |= 1 << (i % 64)
		}
	}
	return num(8, w[0]) + num(8, w[1])
}

// set is the set with this encoding.
func set(s string) [128]bool {
	var out [128]bool
	for i := range out {
		out[i] = binary.BigEndian.Uint64([]byte(s[8*(i/64):]))>>(i%64)&1 == 1
	}
	return out
}

func mapSector(now, frozen [128]bool, open uint64) string {
	return raw(kindDirty, words(now)+words(frozen)+num(8, open))
}

func bootSector(seq, starts uint64) string { return raw(kindBoot, num(8, seq)+num(8, starts)) }

func epochSector(seq, epoch uint64, root string, acked uint64) string {
	return raw(kindEpoch, num(8, seq)+num(8, epoch)+root+num(8, acked))
}

func nodeSector(node int, digest string) string {
	return raw(kindNode, num(2, uint64(node))+digest)
}

func cowSector(k int, e api.Entry) string {
	return raw(kindCow, num(8, e.Epoch)+num(4, uint64(k))+num(4, uint64(e.Place))+num(4, sum(e.Old)))
}

// format is what Format does.
func (m *model) format(sectors ...string) api.Errno {
	var ops []op
	var all []string
	for i := range m.c.G.N {
		data, _ := m.d.Read(6 + i)
		if i < len(sectors) {
			data = sectors[i]
			ops = append(ops, write(6+i, data))
		}
		all = append(all, data)
	}
	for node, d := range digests(m.c.G, all) {
		ops = append(ops, write(6+m.c.G.N+node, nodeSector(node, d)))
	}
	ops = append(ops, sync())
	ops = append(ops, save(5, mapSector([128]bool{}, [128]bool{}, 0))...)
	ops = append(ops, save(3, epochSector(0, 0, root(m.c.G, all), 0))...)
	ops = append(ops, save(1, bootSector(0, 0))...)
	ops = append(ops, save(0, super(api.Source, m.c))...)
	return m.run(step{ops: ops})
}

// latest is the number and the body of a slot's record, behind its number.
func (m *model) latest(at int, kind byte) (uint64, string) {
	a, _ := m.d.Read(at)
	b, _ := m.d.Read(at + 1)
	first, second := body(kind, a), body(kind, b)
	if first == "" || second != "" && second[:8] > first[:8] {
		first = second
	}
	return binary.BigEndian.Uint64([]byte(first)), first[8:]
}

// start is what Open does to a disk that is right.
func (m *model) start() api.Errno {
	seq, b := m.latest(1, kindBoot)
	boot := binary.BigEndian.Uint64([]byte(b)) + 1
	why := m.run(step{ops: save(1+int((seq+1)%2), bootSector(seq+1, boot))})
	if why != api.OK {
		return why
	}
	m.boot, m.bootSeq = boot, seq+1
	m.epSeq, b = m.latest(3, kindEpoch)
	m.epoch, m.root, m.acked = binary.BigEndian.Uint64([]byte(b)), b[8:40], binary.BigEndian.Uint64([]byte(b[40:]))
	data, _ := m.d.Read(5)
	b = body(kindDirty, data)
	m.now, m.frozen, m.open = set(b), set(b[16:]), binary.BigEndian.Uint64([]byte(b[32:]))
	m.kept = nil
	for k := 0; m.open != 0 && k < m.c.G.Cow; k++ {
		data, _ := m.d.Read(areaAt(m.c.G, 2*k))
		old, _ := m.d.Read(areaAt(m.c.G, 2*k+1))
		b := body(kindCow, data)
		if len(b) != 20 {
			break
		}
		e := api.Entry{Epoch: m.open, Place: int(binary.BigEndian.Uint32([]byte(b[12:]))), Old: old}
		if e.Place >= m.c.G.N || cowSector(k, e) != data {
			break
		}
		m.kept = append(m.kept, e)
	}
	return api.OK
}

// old is what was preserved of a sector.
func (m *model) old(i int) (string, bool) {
	for _, e := range m.kept {
		if e.Place == i {
			return e.Old, true
		}
	}
	return "", false
}

// merge gives the open snapshot up.
func (m *model) merge() step {
	now := m.now
	for i, is := range m.frozen {
		now[i] = now[i] || is
	}
	return step{save(5, mapSector(now, [128]bool{}, 0)), func() { m.now, m.frozen, m.open, m.kept = now, [128]bool{}, 0, nil }}
}

// write is what Write does with a sector that there is.
func (m *model) write(i int, data string) api.Errno {
	if now := m.now; !now[i] {
		now[i] = true
		if why := m.run(step{save(5, mapSector(now, m.frozen, m.open)), func() { m.now = now }}); why != api.OK {
			return why
		}
	}
	if _, is := m.old(i); m.open != 0 && !is && len(m.kept) == m.c.G.Cow {
		if why := m.run(m.merge()); why != api.OK {
			return why
		}
	} else if m.open != 0 && !is {
		k := len(m.kept)
		e := api.Entry{Epoch: m.open, Place: i}
		e.Old, _ = m.d.Read(6 + i)
		ops := append(save(areaAt(m.c.G, 2*k+1), e.Old), save(areaAt(m.c.G, 2*k), cowSector(k, e))...)
		if why := m.run(step{ops, func() { m.kept = append(m.kept, e) }}); why != api.OK {
			return why
		}
	}
	return m.run(step{ops: []op{write(6+i, data)}})
}

// flush is what Flush does.
func (m *model) flush() api.Errno { return m.run(step{ops: []op{sync()}}) }

// rehash are the ops of the nodes that are above dirty sectors, and the root.
func (m *model) rehash() ([]op, string) {
	g := m.c.G
	var all []string
	var ops []op
	anew := make([]bool, count(g))
	for node := range anew {
		data, _ := m.d.Read(6 + g.N + node)
		all = append(all, body(kindNode, data)[2:])
		below := ""
		for _, child := range family(g, node) {
			anew[node] = anew[node] || anew[child]
			below += all[child]
		}
		if node < g.N {
			anew[node] = m.now[node]
			below, _ = m.d.Read(6 + node)
		}
		if anew[node] {
			all[node] = hash(byte(min(len(family(g, node)), 1)), below)
			ops = append(ops, write(6+g.N+node, nodeSector(node, all[node])))
		}
	}
	if len(ops) > 0 {
		ops = append(ops, sync())
	}
	return ops, all[len(all)-1]
}

// seal is what Seal does if there is an epoch left.
func (m *model) seal() api.Errno {
	if why := m.flush(); why != api.OK {
		return why
	}
	if m.open != 0 {
		if why := m.run(m.merge()); why != api.OK {
			return why
		}
	}
	ops, root := m.rehash()
	seq, epoch := m.epSeq+1, m.epoch+1
	return m.run(
		step{ops: ops},
		step{save(3+int(seq%2), epochSector(seq, epoch, root, m.acked)), func() { m.epSeq, m.epoch, m.root = seq, epoch, root }},
		step{save(5, mapSector([128]bool{}, m.now, epoch)), func() { m.now, m.frozen, m.open, m.kept = [128]bool{}, m.now, epoch, nil }},
	)
}

// ack is what Ack does with an epoch that there is.
func (m *model) ack(epoch uint64) api.Errno {
	if epoch > m.acked {
		seq := m.epSeq + 1
		s := step{save(3+int(seq%2), epochSector(seq, m.epoch, m.root, epoch)), func() { m.epSeq, m.acked = seq, epoch }}
		if why := m.run(s); why != api.OK {
			return why
		}
	}
	if epoch != m.open {
		return api.OK
	}
	return m.run(step{save(5, mapSector(m.now, [128]bool{}, 0)), func() { m.frozen, m.open, m.kept = [128]bool{}, 0, nil }})
}

// state is what State returns.
func (m *model) state() State {
	s := State{Boot: m.boot, Epoch: m.epoch, Root: m.root, Acked: m.acked, Open: m.open, Kept: len(m.kept)}
	for i, is := range m.now {
		if is {
			s.Dirty = append(s.Dirty, i)
		}
	}
	return s
}

// alike reports whether two states are.
func alike(a, b State) bool {
	return a.Boot == b.Boot && a.Epoch == b.Epoch && a.Root == b.Root && a.Acked == b.Acked && a.Open == b.Open && slices.Equal(a.Dirty, b.Dirty) && a.Kept == b.Kept
}

// made returns a disk with n sectors.
func made(t *testing.T, n int) *disk.Disk {
	t.Helper()
	d, why := disk.New(n)
	if why != api.OK {
		t.Fatalf("disk.New(%d) = %d", n, why)
	}
	return d
}

// put writes a sector.
func put(t *testing.T, d *disk.Disk, at int, data string) {
	t.Helper()
	if why := d.Write(at, data); why != api.OK {
		t.Fatalf("Write(%d) = %d", at, why)
	}
}

// fallen is a disk that is down.
func fallen(d *disk.Disk) *disk.Disk {
	d = d.Copy()
	d.Crash()
	return d
}

// same tells if a disk is not as another one, with its pending writes.
func same(t *testing.T, what string, d, want *disk.Disk) {
	t.Helper()
	if d.Done() != want.Done() || d.Down() != want.Down() || !slices.Equal(d.Waits(), want.Waits()) {
		t.Fatalf("%s: done %d, want %d; down %t, want %t; waits %v, want %v", what, d.Done(), want.Done(), d.Down(), want.Down(), d.Waits(), want.Waits())
	}
	for at := range want.Len() {
		a, _ := d.Kept(at)
		b, _ := want.Kept(at)
		if a != b {
			t.Fatalf("%s: sector %d is %q, want %q", what, at, a, b)
		}
	}
}

// chance is n choices by chance.
func chance(r *rand.Rand, n int) []bool {
	out := make([]bool, n)
	for i := range out {
		out[i] = r.Intn(2) == 0
	}
	return out
}
