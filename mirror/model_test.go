package mirror

import (
	"crypto/sha256"
	"encoding/binary"
	"hash/crc32"
	"math/rand"
	"slices"
	"strings"
	"testing"

	"pentimento/api"
	"pentimento/disk"
)

// This file has the target's volume once more, by the document's words, in plain bytes: what the package does is held against it.

// The kinds of records.
const (
	kindSuper  = 1
	kindBoot   = 2
	kindCommit = 4
	kindNode   = 6
	kindUndo   = 7
)

// num is a number in so many bytes.
func num(width int, n uint64) string {
	return string(binary.BigEndian.AppendUint64(nil, n)[8-width:])
}

// sum is the checksum by the library.
func sum(s string) uint64 {
	return uint64(crc32.Checksum([]byte(s), crc32.MakeTable(crc32.Castagnoli)))
}

// raw is the sector of a record with this kind and body.
func raw(kind byte, body string) string {
	full := string([]byte{kind, byte(len(body))}) + body
	full += strings.Repeat("\x00", 60-len(full))
	return full + num(4, sum(full))
}

// body is that of the record that a sector has, and nothing if it has none of this kind.
func body(kind byte, data string) string {
	if data[0] != kind || data[1] > 58 || raw(kind, data[2:2+data[1]]) != data {
		return ""
	}
	return data[2 : 2+data[1]]
}

// super is the sector of a side's volume.
func super(side byte, c api.Config) string {
	b := string([]byte{side}) + num(4, uint64(c.Vol)) + num(2, uint64(c.G.N)) + num(1, uint64(c.G.F))
	return raw(kindSuper, b+num(2, uint64(c.G.Cow))+num(2, uint64(c.G.Undo))+num(8, c.Last))
}

// shape is the first node of each level, and behind these the number of all nodes.
func shape(g api.Geom) []int {
	out, n := []int{0, g.N}, g.N
	for n > 1 {
		n = (n + g.F - 1) / g.F
		out = append(out, out[len(out)-1]+n)
	}
	return out
}

// count is how many nodes there are.
func count(g api.Geom) int { return slices.Max(shape(g)) }

// family is a node's children.
func family(g api.Geom, node int) []int {
	s := shape(g)
	var out []int
	for level := 1; level < len(s)-1; level++ {
		for child := s[level-1]; child < s[level]; child++ {
			if s[level]+(child-s[level-1])/g.F == node {
				out = append(out, child)
			}
		}
	}
	return out
}

// hash is the digest of bytes behind a first one, that of leaves or of other nodes.
func hash(first byte, s string) string {
	d := sha256.Sum256([]byte(string([]byte{first}) + s))
	return string(d[:])
}

// digests are those of the tree of sectors.
func digests(g api.Geom, sectors []string) []string {
	var out []string
	for node := range count(g) {
		if node < g.N {
			out = append(out, hash(0, sectors[node]))
			continue
		}
		all := ""
		for _, child := range family(g, node) {
			all += out[child]
		}
		out = append(out, hash(1, all))
	}
	return out
}

// root is that of the tree of sectors.
func root(g api.Geom, sectors []string) string { return digests(g, sectors)[count(g)-1] }

// areaAt is where sector k of the area is, and size how many sectors the target's disk has.
func areaAt(g api.Geom, k int) int { return 6 + g.N + count(g) + k }
func size(g api.Geom) int          { return areaAt(g, 2*g.Undo) }

// op is a write, or a flush of all writes.
type op struct {
	flush bool
	put   api.Put
}

// write and sync are an op each, save is a write and a flush.
func write(at int, data string) op { return op{put: api.Put{At: at, Data: data}} }
func sync() op                     { return op{flush: true} }
func save(at int, data string) []op {
	return []op{write(at, data), sync()}
}

// step is ops, and what a volume knows behind them.
type step struct {
	ops  []op
	then func()
}

// trial is a try: its tag, what it is for, the entries it has, and the sectors as they are to be.
type trial struct {
	tag, epoch uint64
	root       string
	entries    []api.Entry
	image      []string
}

// model is a volume, and what its disk is like.
type model struct {
	c                                       api.Config
	d                                       *disk.Disk
	boot, bootSeq, session, epoch, epochSeq uint64
	root                                    string
	// The sectors of the epoch.
	image []string
	tries uint64
	try   *trial
}

// run performs steps on the model's disk, up to the first op that fails.
func (m *model) run(steps ...step) api.Errno {
	for _, s := range steps {
		for _, o := range s.ops {
			why := api.OK
			if o.flush {
				why = m.d.Flush()
			} else {
				why = m.d.Write(o.put.At, o.put.Data)
			}
			if why != api.OK {
				return why
			}
		}
		if s.then != nil {
			s.then()
		}
	}
	return api.OK
}

// latest is the number and the body of a slot's record, behind its number.
func (m *model) latest(at int, kind byte) (uint64, string) {
	a, _ := m.d.Read(at)
	b, _ := m.d.Read(at + 1)
	first, second := body(kind, a), body(kind, b)
	if first == "" || second != "" && second[:8] > first[:8] {
		first = second
	}
	return binary.BigEndian.Uint64([]byte(first)), first[8:]
}

func bootSector(seq, starts, session uint64) string {
	return raw(kindBoot, num(8, seq)+num(8, starts)+num(8, session))
}

func commitSector(seq, epoch uint64, root string) string {
	return raw(kindCommit, num(8, seq)+num(8, epoch)+root)
}

func nodeSector(node int, digest string) string {
	return raw(kindNode, num(2, uint64(node))+digest)
}

func undoSector(k int, e api.Entry) string {
	return raw(kindUndo, num(8, e.Tag)+num(8, e.Epoch)+num(4, uint64(k))+num(4, uint64(e.Place))+num(4, sum(e.Old)))
}

// format is what Format does.
func (m *model) format(sectors ...string) api.Errno {
	var ops []op
	var all []string
	for i := range m.c.G.N {
		data, _ := m.d.Read(6 + i)
		if i < len(sectors) {
			data = sectors[i]
			ops = append(ops, write(6+i, data))
		}
		all = append(all, data)
	}
	for node, d := range digests(m.c.G, all) {
		ops = append(ops, write(6+m.c.G.N+node, nodeSector(node, d)))
	}
	ops = append(ops, sync())
	ops = append(ops, save(areaAt(m.c.G, 0), strings.Repeat("\x00", 64))...)
	ops = append(ops, save(3, commitSector(0, 0, root(m.c.G, all)))...)
	ops = append(ops, save(1, bootSector(0, 0, 0))...)
	ops = append(ops, save(0, super(api.Target, m.c))...)
	return m.run(step{ops: ops})
}

// saveBoot is another record of starts.
func (m *model) saveBoot(boot, session uint64) api.Errno {
	seq := m.bootSeq + 1
	return m.run(step{save(1+int(seq%2), bootSector(seq, boot, session)), func() { m.bootSeq, m.boot, m.session = seq, boot, session }})
}

// scan is the entries that the disk has, of a later epoch.
func (m *model) scan() []api.Entry {
	var out []api.Entry
	for k := range m.c.G.Undo {
		data, _ := m.d.Read(areaAt(m.c.G, 2*k))
		old, _ := m.d.Read(areaAt(m.c.G, 2*k+1))
		b := body(kindUndo, data)
		if len(b) != 28 {
			break
		}
		e := api.Entry{Tag: binary.BigEndian.Uint64([]byte(b)), Epoch: binary.BigEndian.Uint64([]byte(b[8:])), Place: int(binary.BigEndian.Uint32([]byte(b[20:]))), Old: old}
		if undoSector(k, e) != data || e.Epoch <= m.epoch || e.Place < 6 || e.Place >= areaAt(m.c.G, 0) {
			break
		}
		if k > 0 && (e.Tag != out[0].Tag || e.Epoch != out[0].Epoch) {
			break
		}
		out = append(out, e)
	}
	return out
}

// undone is what undoes entries.
func (m *model) undone(l []api.Entry) []op {
	var ops []op
	for _, e := range slices.Backward(l) {
		ops = append(ops, write(e.Place, e.Old))
	}
	return append(append(ops, sync()), save(areaAt(m.c.G, 0), strings.Repeat("\x00", 64))...)
}

// start is what Open does to a disk that is right.
func (m *model) start() api.Errno {
	m.try, m.tries = nil, 0
	seq, b := m.latest(1, kindBoot)
	m.bootSeq = seq
	if why := m.saveBoot(binary.BigEndian.Uint64([]byte(b))+1, binary.BigEndian.Uint64([]byte(b[8:]))); why != api.OK {
		return why
	}
	m.epochSeq, b = m.latest(3, kindCommit)
	m.epoch, m.root = binary.BigEndian.Uint64([]byte(b)), b[8:]
	if l := m.scan(); len(l) > 0 {
		if why := m.run(step{ops: m.undone(l)}); why != api.OK {
			return why
		}
	}
	m.image = nil
	for i := range m.c.G.N {
		data, _ := m.d.Read(6 + i)
		m.image = append(m.image, data)
	}
	return api.OK
}

// know is what Session does.
func (m *model) know(n uint64) api.Errno {
	if n <= m.session {
		return api.OK
	}
	return m.saveBoot(m.boot, n)
}

// begin is what Begin does with an epoch and a root that can be.
func (m *model) begin(epoch uint64, root string) api.Errno {
	if m.try != nil {
		return api.ErrState
	}
	m.tries++
	m.try = &trial{tag: m.boot*1048576 + m.tries, epoch: epoch, root: root, image: slices.Clone(m.image)}
	return api.OK
}

// guard is an entry for a place, if there is none.
func (m *model) guard(at int) api.Errno {
	for _, e := range m.try.entries {
		if e.Place == at {
			return api.OK
		}
	}
	k := len(m.try.entries)
	if k == m.c.G.Undo {
		return api.ErrUndo
	}
	e := api.Entry{Tag: m.try.tag, Epoch: m.try.epoch, Place: at}
	why := api.OK
	if e.Old, why = m.d.Read(at); why != api.OK {
		return why
	}
	ops := append(save(areaAt(m.c.G, 2*k+1), e.Old), save(areaAt(m.c.G, 2*k), undoSector(k, e))...)
	return m.run(step{ops, func() { m.try.entries = append(m.try.entries, e) }})
}

// apply is what Apply does with a sector that there is.
func (m *model) apply(i int, data string) api.Errno {
	if m.try == nil {
		return api.ErrState
	}
	if why := m.guard(6 + i); why != api.OK {
		return why
	}
	return m.run(step{[]op{write(6+i, data)}, func() { m.try.image[i] = data }})
}

// finish is what Finish does.
func (m *model) finish() api.Errno {
	if m.try == nil {
		return api.ErrState
	}
	g := m.c.G
	was, now := digests(g, m.image), digests(g, m.try.image)
	if now[count(g)-1] != m.try.root {
		return api.ErrRoot
	}
	for node := range now {
		if now[node] == was[node] {
			continue
		}
		if why := m.guard(6 + g.N + node); why != api.OK {
			return why
		}
		if why := m.run(step{ops: []op{write(6+g.N+node, nodeSector(node, now[node]))}}); why != api.OK {
			return why
		}
	}
	seq := m.epochSeq + 1
	return m.run(
		step{ops: []op{sync()}},
		step{save(3+int(seq%2), commitSector(seq, m.try.epoch, m.try.root)), func() {
			m.epochSeq, m.epoch, m.root, m.image, m.try = seq, m.try.epoch, m.try.root, m.try.image, nil
		}},
	)
}

// back is what Back does.
func (m *model) back() api.Errno {
	if m.try == nil {
		return api.OK
	}
	if len(m.try.entries) > 0 {
		if why := m.run(step{ops: m.undone(m.try.entries)}); why != api.OK {
			return why
		}
	}
	m.try = nil
	return api.OK
}

// state is what State returns.
func (m *model) state() State {
	s := State{Boot: m.boot, Session: m.session, Epoch: m.epoch, Root: m.root}
	if m.try != nil {
		s.Try, s.Undo = m.try.epoch, len(m.try.entries)
	}
	return s
}

// made returns a disk with n sectors.
func made(t *testing.T, n int) *disk.Disk {
	t.Helper()
	d, why := disk.New(n)
	if why != api.OK {
		t.Fatalf("disk.New(%d) = %d", n, why)
	}
	return d
}

// put writes a sector.
func put(t *testing.T, d *disk.Disk, at int, data string) {
	t.Helper()
	if why := d.Write(at, data); why != api.OK {
		t.Fatalf("Write(%d) = %d", at, why)
	}
}

// fallen is a disk that is down.
func fallen(d *disk.Disk) *disk.Disk {
	d = d.Copy()
	d.Crash()
	return d
}

// same tells if a disk is not as another one, with its pending writes.
func same(t *testing.T, what string, d, want *disk.Disk) {
	t.Helper()
	if d.Done() != want.Done() || d.Down() != want.Down() || !slices.Equal(d.Waits(), want.Waits()) {
		t.Fatalf("%s: done %d, want %d; down %t, want %t; waits %v, want %v", what, d.Done(), want.Done(), d.Down(), want.Down(), d.Waits(), want.Waits())
	}
	for at := range want.Len() {
		a, _ := d.Kept(at)
		b, _ := want.Kept(at)
		if a != b {
			t.Fatalf("%s: sector %d is %q, want %q", what, at, a, b)
		}
	}
}

// chance is n choices by chance.
func chance(r *rand.Rand, n int) []bool {
	out := make([]bool, n)
	for i := range out {
		out[i] = r.Intn(2) == 0
	}
	return out
}
