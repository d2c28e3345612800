package nodes

import (
	"crypto/sha256"
	"encoding/binary"
	"hash/crc32"
	"math"
	"math/rand"
	"slices"
	"strings"
	"testing"

	"pentimento/api"
	"pentimento/disk"
	"pentimento/sector"
	"pentimento/tree"
)

// geometry is a valid one of so many data sectors and children.
func geometry(n, f int) api.Geom { return api.Geom{N: n, F: f, Cow: n % 65, Undo: 1 + n} }

// shapes are the valid geometries, of all shapes of trees.
func shapes() []api.Geom {
	var out []api.Geom
	for n := 1; n <= 128; n++ {
		for f := 2; f <= 4; f++ {
			out = append(out, geometry(n, f))
		}
	}
	return out
}

// few are some of them: the least and the greatest, those that their levels fill, and those of which a node has one child.
func few() []api.Geom {
	var out []api.Geom
	for _, n := range []int{1, 2, 3, 5, 8, 9, 17, 28, 127, 128} {
		for f := 2; f <= 4; f++ {
			out = append(out, geometry(n, f))
		}
	}
	return out
}

// wrong are geometries that are not valid.
var wrong = []api.Geom{
	{}, {N: 0, F: 2, Undo: 1}, {N: -1, F: 2, Undo: 1}, {N: 129, F: 2, Undo: 1}, {N: math.MinInt, F: 2, Undo: 1}, {N: math.MaxInt, F: 4, Undo: 1},
	{N: 2, F: 1, Undo: 1}, {N: 2, F: 0, Undo: 1}, {N: 2, F: 5, Undo: 1}, {N: 2, F: -2, Undo: 1},
	{N: 2, F: 2, Cow: -1, Undo: 1}, {N: 2, F: 2, Cow: 65, Undo: 1}, {N: 2, F: 2, Undo: 0}, {N: 2, F: 2, Undo: 321}, {N: 2, F: 2, Undo: -1},
}

// outside are numbers that none of count things has.
func outside(count int) []int {
	return []int{-1, -2, -255, count, count + 1, 256, 1 << 16, 1<<32 + 1, math.MaxInt, math.MinInt, math.MinInt + 1}
}

// below returns the children of each node, of leaves none: by the definition's words, level by level.
func below(n, f int) [][]int {
	out := make([][]int, n)
	level := make([]int, n)
	for i := range level {
		level[i] = i
	}
	for len(level) > 1 {
		var next []int
		for len(level) > 0 {
			k := min(f, len(level))
			next = append(next, len(out))
			out = append(out, level[:k])
			level = level[k:]
		}
		level = next
	}
	return out
}

// total is how many nodes the tree of a geometry has.
func total(g api.Geom) int { return len(below(g.N, g.F)) }

// place is the location of a node: behind the six sectors of the volume, and the data sectors.
func place(g api.Geom, node int) int { return 6 + g.N + node }

// of is a digest by the library.
func of(mark byte, parts ...string) string {
	d := sha256.Sum256([]byte(string([]byte{mark}) + strings.Join(parts, "")))
	return string(d[:])
}

// remade sets those digests that are to be recomputed, by the sectors, or by the children's digests.
func remade(g api.Geom, sectors, digests []string, anew []bool) []string {
	out := slices.Clone(digests)
	for i, children := range below(g.N, g.F) {
		if !anew[i] {
			continue
		}
		if i < g.N {
			out[i] = of(0, sectors[i])
			continue
		}
		var parts []string
		for _, c := range children {
			parts = append(parts, out[c])
		}
		out[i] = of(1, parts...)
	}
	return out
}

// model is the digests of the tree of sectors.
func model(g api.Geom, sectors []string) []string {
	n := total(g)
	return remade(g, sectors, make([]string, n), slices.Repeat([]bool{true}, n))
}

// above tells of each node whether it is one of the leaves, or above one.
func above(g api.Geom, leaves []int) []bool {
	children := below(g.N, g.F)
	out := make([]bool, len(children))
	for i := range out {
		out[i] = slices.Contains(leaves, i) || slices.ContainsFunc(children[i], func(c int) bool { return out[c] })
	}
	return out
}

// sealed is a sector with its checksum, by the library.
func sealed(bytes string) string {
	full := bytes + strings.Repeat("\x00", 60-len(bytes))
	return full + string(binary.BigEndian.AppendUint32(nil, crc32.Checksum([]byte(full), crc32.MakeTable(crc32.Castagnoli))))
}

// raw is the sector of a record with this body, a node's or not.
func raw(kind byte, body string) string {
	return sealed(string([]byte{kind, byte(len(body))}) + body)
}

// record is the sector of a node's record.
func record(node int, digest string) string {
	return raw(6, string(binary.BigEndian.AppendUint16(nil, uint16(node)))+digest)
}

// content is n sectors, of which no two are alike.
func content(n int, seed byte) []string {
	var out []string
	for i := range n {
		out = append(out, strings.Repeat(string([]byte{seed, byte(i), 0xff, byte(i) ^ seed}), 16))
	}
	return out
}

// chance is n digests by chance.
func chance(r *rand.Rand, n int) []string {
	var out []string
	for range n {
		b := make([]byte, 32)
		r.Read(b)
		out = append(out, string(b))
	}
	return out
}

// made returns a disk with n sectors.
func made(t *testing.T, n int) *disk.Disk {
	t.Helper()
	d, why := disk.New(n)
	if why != api.OK {
		t.Fatalf("disk.New(%d) = %d", n, why)
	}
	return d
}

// put writes a sector.
func put(t *testing.T, d *disk.Disk, at int, data string) {
	t.Helper()
	if why := d.Write(at, data); why != api.OK {
		t.Fatalf("Write(%d) = %d", at, why)
	}
}

// laid returns a disk with these data sectors and these digests, and two sectors more behind them. All is flushed; the sectors that are neither have bytes 0xee.
func laid(t *testing.T, g api.Geom, sectors, digests []string) *disk.Disk {
	t.Helper()
	d := made(t, place(g, total(g))+2)
	for at := range d.Len() {
		put(t, d, at, sector.Fill(0xee))
	}
	for i, data := range sectors {
		put(t, d, 6+i, data)
	}
	for i, digest := range digests {
		put(t, d, place(g, i), record(i, digest))
	}
	d.Flush()
	return d
}

// fresh returns a disk with data sectors and no nodes yet.
func fresh(t *testing.T, g api.Geom, sectors []string) *disk.Disk {
	t.Helper()
	return laid(t, g, sectors, nil)
}

// fallen is a disk that is down.
func fallen(t *testing.T, d *disk.Disk) *disk.Disk {
	t.Helper()
	d = d.Copy()
	d.Crash()
	return d
}

// same tells if a disk is not as another one, with its pending writes.
func same(t *testing.T, what string, d, want *disk.Disk) {
	t.Helper()
	if d.Done() != want.Done() || d.Down() != want.Down() || !slices.Equal(d.Waits(), want.Waits()) {
		t.Fatalf("%s: done %d, want %d; waits %v, want %v", what, d.Done(), want.Done(), d.Waits(), want.Waits())
	}
	for at := range want.Len() {
		a, _ := d.Kept(at)
		b, _ := want.Kept(at)
		if a != b {
			t.Fatalf("%s: sector %d is %q, want %q", what, at, a, b)
		}
	}
}

// gets tells if Get does not return this digest.
func gets(t *testing.T, d *disk.Disk, g api.Geom, node int, want string) {
	t.Helper()
	if s, why := Get(d, g, node); s != want || why != api.OK {
		t.Errorf("%v: Get(%d) = %x %d, want %x", g, node, s, why, want)
	}
}

// fails tells if Get does not return this error, and nothing beside it.
func fails(t *testing.T, what string, d *disk.Disk, g api.Geom, node int, want api.Errno) {
	t.Helper()
	if s, why := Get(d, g, node); s != "" || why != want {
		t.Errorf("%s, %v: Get(%d) = %x %d, want %d", what, g, node, s, why, want)
	}
}

// puts tells if Put does not return this, or, as it is an error, changes the disk.
func puts(t *testing.T, what string, d *disk.Disk, g api.Geom, node int, digest string, want api.Errno) {
	t.Helper()
	was := d.Copy()
	if why := Put(d, g, node, digest); why != want {
		t.Errorf("%s, %v: Put(%d, %x) = %d, want %d", what, g, node, digest, why, want)
	}
	if want != api.OK && d != nil {
		same(t, what, d, was)
	}
}

// all tells if All does not return these digests.
func all(t *testing.T, what string, d *disk.Disk, g api.Geom, want []string) {
	t.Helper()
	if l, why := All(d, g); !slices.Equal(l, want) || why != api.OK {
		t.Fatalf("%s, %v: All = %x %d, want %x", what, g, l, why, want)
	}
}

// allFails tells if All does not return this error, and nothing beside it.
func allFails(t *testing.T, what string, d *disk.Disk, g api.Geom, want api.Errno) {
	t.Helper()
	if l, why := All(d, g); len(l) != 0 || why != want {
		t.Errorf("%s, %v: All = %x %d, want %d", what, g, l, why, want)
	}
}

// rehashFails tells if Rehash does not return this error, and nothing beside it, or changes the disk.
func rehashFails(t *testing.T, what string, d *disk.Disk, g api.Geom, want api.Errno, leaves ...int) {
	t.Helper()
	was := d.Copy()
	if s, why := Rehash(d, g, leaves...); s != "" || why != want {
		t.Errorf("%s, %v: Rehash(%v) = %x %d, want %d", what, g, leaves, s, why, want)
	}
	if d != nil {
		same(t, what, d, was)
	}
}

// rehashes tells if Rehash does not return this root's digest.
func rehashes(t *testing.T, d *disk.Disk, g api.Geom, want string, leaves ...int) {
	t.Helper()
	if s, why := Rehash(d, g, leaves...); s != want || why != api.OK {
		t.Fatalf("%v: Rehash(%v) = %x %d, want %x", g, leaves, s, why, want)
	}
}

// P13.1: Put writes the record of a node to its location, to no other, and does not flush; Get returns its digest, pending or flushed, and writes nothing.
func TestPut(t *testing.T) {
	r := rand.New(rand.NewSource(13))
	for _, g := range few() {
		d := fresh(t, g, content(g.N, 1))
		want := d.Copy()
		digests := chance(r, total(g))
		for _, node := range r.Perm(len(digests)) {
			puts(t, "put", d, g, node, digests[node], api.OK)
			put(t, want, place(g, node), record(node, digests[node]))
			gets(t, d, g, node, digests[node])
		}
		same(t, "put", d, want)
		d.Flush()
		want.Flush()
		for node, digest := range digests {
			gets(t, d, g, node, digest)
		}
		puts(t, "again", d, g, 0, digests[len(digests)-1], api.OK)
		gets(t, d, g, 0, digests[len(digests)-1])
		put(t, want, place(g, 0), record(0, digests[len(digests)-1]))
		same(t, "got", d, want)
	}
}

// P13.1: the bytes of a record, told one by one.
func TestSector(t *testing.T) {
	g := api.Geom{N: 128, F: 2, Undo: 1}
	d := made(t, 400)
	digest := "abcdefghijklmnopqrstuvwxyz\x00\x01\x02\x03\xfe\xff"
	puts(t, "last", d, g, 254, digest, api.OK)
	want := "\x06\x22\x00\xfe" + digest + strings.Repeat("\x00", 24)
	want += string(binary.BigEndian.AppendUint32(nil, crc32.Checksum([]byte(want), crc32.MakeTable(crc32.Castagnoli))))
	if s, _ := d.Read(6 + 128 + 254); s != want {
		t.Errorf("the record is %q, want %q", s, want)
	}
}

// P13.1: a number that is not that of a node, or a geometry that is not valid, is told ahead of all else that is wrong.
func TestNoNode(t *testing.T) {
	digest := strings.Repeat("d", 32)
	for _, g := range few() {
		up := laid(t, g, content(g.N, 2), model(g, content(g.N, 2)))
		for _, d := range []*disk.Disk{up, fallen(t, up), made(t, 1), nil} {
			for _, node := range outside(total(g)) {
				fails(t, "no node", d, g, node, api.ErrRange)
				puts(t, "no node", d, g, node, digest, api.ErrRange)
				puts(t, "no node", d, g, node, "", api.ErrRange)
			}
		}
	}
	for _, g := range wrong {
		for _, d := range []*disk.Disk{made(t, 1200), nil} {
			for _, node := range []int{0, 1, -1, 7} {
				fails(t, "no geometry", d, g, node, api.ErrRange)
				puts(t, "no geometry", d, g, node, digest, api.ErrRange)
			}
		}
	}
}

// P13.1: a digest has 32 bytes; that is asked ahead of the disk.
func TestLength(t *testing.T) {
	g := geometry(5, 2)
	up := fresh(t, g, content(5, 1))
	for _, d := range []*disk.Disk{up, fallen(t, up), made(t, 1), nil} {
		for n := range 70 {
			if n != 32 {
				puts(t, "length", d, g, 3, strings.Repeat("x", n), api.ErrLength)
			}
		}
	}
	puts(t, "length", up, g, 3, strings.Repeat("x", 32), api.OK)
}

// P13.1: the disk's errors: it is not there, is down, has no such sector, or goes down by its fuse.
func TestDiskErrors(t *testing.T) {
	digest := strings.Repeat("d", 32)
	for _, g := range few() {
		up := laid(t, g, content(g.N, 2), model(g, content(g.N, 2)))
		down := fallen(t, up)
		allFails(t, "nil", nil, g, api.ErrNil)
		allFails(t, "down", down, g, api.ErrDown)
		for node := range total(g) {
			fails(t, "nil", nil, g, node, api.ErrNil)
			puts(t, "nil", nil, g, node, digest, api.ErrNil)
			fails(t, "down", down, g, node, api.ErrDown)
			puts(t, "down", down, g, node, digest, api.ErrDown)
			small := made(t, place(g, node))
			fails(t, "small", small, g, node, api.ErrRange)
			puts(t, "small", small, g, node, digest, api.ErrRange)
			enough := made(t, place(g, node)+1)
			fails(t, "enough", enough, g, node, api.ErrSum)
			puts(t, "enough", enough, g, node, digest, api.OK)
			gets(t, enough, g, node, digest)
		}
		up.Fuse(0)
		if why := Put(up, g, 0, digest); why != api.ErrDown || !up.Down() || len(up.Waits()) != 0 {
			t.Errorf("fuse: Put = %d, waits %v", why, up.Waits())
		}
	}
}

// faults are sectors that are not the record of a node, and what Get returns for them: each error of rec.Open, ahead of those of the body.
func faults(node int) map[string]api.Errno {
	right := record(node, strings.Repeat("d", 32))
	out := map[string]api.Errno{sector.Zero(): api.ErrSum, sector.Fill(6): api.ErrSum}
	for i := range right {
		b := []byte(right)
		b[i] ^= 0x10
		out[string(b)] = api.ErrSum
	}
	for _, head := range []string{"\x00\x22", "\x09\x22", "\xff\x22", "\x06\x3b", "\x06\xff", "\x06\x00\x00\x01"} {
		out[sealed(head)] = api.ErrForm
	}
	for kind := byte(1); kind <= 8; kind++ {
		for _, body := range []string{"", right[2:36], strings.Repeat("\x00", 58)} {
			if kind != 6 {
				out[raw(kind, body)] = api.ErrKind
			}
		}
	}
	for n := range 59 {
		if n != 34 {
			out[raw(6, (right[2:36] + strings.Repeat("d", 58))[:n])] = api.ErrForm
		}
	}
	for _, other := range []int{node + 1, node - 1, node + 256, node ^ 255, node << 8, 65535} {
		if other != node {
			out[record(other, strings.Repeat("d", 32))] = api.ErrForm
		}
	}
	return out
}

// P13.1: the errors of rec.Open; a body of another length, or of another node.
func TestGetRecord(t *testing.T) {
	g := geometry(128, 2)
	for _, node := range []int{0, 1, 5, 127, 128, 253, 254} {
		d := made(t, 400)
		for data, want := range faults(node) {
			put(t, d, place(g, node), data)
			fails(t, "no record of the node", d, g, node, want)
		}
		put(t, d, place(g, node), record(node, strings.Repeat("e", 32)))
		gets(t, d, g, node, strings.Repeat("e", 32))
	}
}

// P13.1: All returns what is in the records of all shapes of trees, whether it belongs together or not; its list is its caller's.
func TestAll(t *testing.T) {
	r := rand.New(rand.NewSource(31))
	for _, g := range shapes() {
		digests := chance(r, total(g))
		d := laid(t, g, content(g.N, 1), digests)
		was := d.Copy()
		l, why := All(d, g)
		if !slices.Equal(l, digests) || why != api.OK {
			t.Fatalf("%v: All = %x %d, want %x", g, l, why, digests)
		}
		for i := range l {
			l[i] = ""
		}
		all(t, "behind a change of its result", d, g, digests)
		same(t, "All", d, was)
	}
}

// P13.1: All tells the error of the first node that has one, and ahead of that of a geometry that is not valid.
func TestAllErrors(t *testing.T) {
	for _, g := range wrong {
		for _, d := range []*disk.Disk{made(t, 1200), fallen(t, made(t, 1200)), nil} {
			allFails(t, "no geometry", d, g, api.ErrGeom)
		}
	}
	g := geometry(9, 2)
	digests := model(g, content(9, 1))
	bad := []string{sector.Zero(), raw(3, ""), raw(6, "")}
	errs := []api.Errno{api.ErrSum, api.ErrKind, api.ErrForm}
	for i := range digests {
		for j := range digests {
			d := laid(t, g, content(9, 1), digests)
			put(t, d, place(g, j), bad[j%3])
			put(t, d, place(g, i), bad[i%3])
			allFails(t, "two faults", d, g, errs[min(i, j)%3])
		}
	}
	for n := 1; n < place(g, len(digests)); n++ {
		d := made(t, n)
		for i := 0; place(g, i) < n; i++ {
			puts(t, "small", d, g, i, digests[i], api.OK)
		}
		allFails(t, "small", d, g, api.ErrRange)
	}
}

// P13.2, P13.3: Full of all shapes of trees, whatever the nodes' sectors had: it writes each node once and flushes, and nothing else.
func TestFull(t *testing.T) {
	r := rand.New(rand.NewSource(3))
	for _, g := range shapes() {
		sectors := content(g.N, byte(g.F))
		want := model(g, sectors)
		for _, before := range [][]string{nil, chance(r, len(want)), want} {
			d := laid(t, g, sectors, before)
			done := d.Done()
			if s, why := Full(d, g); s != want[len(want)-1] || why != api.OK {
				t.Fatalf("%v: Full = %x %d, want %x", g, s, why, want[len(want)-1])
			}
			if d.Done() != done+len(want)+1 || len(d.Waits()) != 0 {
				t.Errorf("%v: Full has done %d, waits %v", g, d.Done()-done, d.Waits())
			}
			all(t, "Full", d, g, want)
			kept(t, d, laid(t, g, sectors, want))
		}
	}
}

// kept tells if not all flushed sectors of two disks are alike.
func kept(t *testing.T, d, want *disk.Disk) {
	t.Helper()
	for at := range want.Len() {
		a, _ := d.Kept(at)
		b, _ := want.Kept(at)
		if a != b {
			t.Fatalf("sector %d is %q, want %q", at, a, b)
		}
	}
}

// P13.2: the document's example: one record, the digest of 64 bytes 0.
func TestOne(t *testing.T) {
	for f := 2; f <= 4; f++ {
		g := geometry(1, f)
		d := made(t, 8)
		want := of(0, sector.Zero())
		if s, why := Full(d, g); s != want || why != api.OK || d.Done() != 2 {
			t.Errorf("Full = %x %d, done %d", s, why, d.Done())
		}
		if s, _ := d.Kept(7); s != record(0, want) {
			t.Errorf("sector 7 is %q", s)
		}
	}
}

// P13.3: what All returns behind Full is the tree of package tree.
func TestTree(t *testing.T) {
	for _, g := range few() {
		sectors := content(g.N, 4)
		d := fresh(t, g, sectors)
		root, why := Full(d, g)
		of, fault := tree.New(g, sectors...)
		if why != api.OK || fault != api.OK || root != of.Root() {
			t.Errorf("%v: Full = %x %d, want %x", g, root, why, of.Root())
		}
		all(t, "Full", d, g, of.All())
	}
}

// some are lists of leaves: each alone, all, in any order, and some of them more than once.
func some(r *rand.Rand, n int) [][]int {
	out := [][]int{r.Perm(n), {0, 0}, {n - 1, 0, n - 1}}
	for range 6 {
		l := r.Perm(n)[:1+r.Intn(n)]
		out = append(out, append(l, l[r.Intn(len(l))]))
	}
	for leaf := range n {
		out = append(out, []int{leaf})
	}
	return out
}

// P13.2: Rehash recomputes the leaves and what is above them by what is there, ascending, each node once; it reads sectors that are not flushed, flushes at the end, and leaves the others alone, right or not. Its list is not changed.
func TestRehash(t *testing.T) {
	r := rand.New(rand.NewSource(5))
	for _, g := range few() {
		sectors, digests := content(g.N, 6), chance(r, total(g))
		laidOut := laid(t, g, content(g.N, 7), digests)
		for _, leaves := range some(r, g.N) {
			anew := above(g, leaves)
			want := remade(g, sectors, digests, anew)
			d := laidOut.Copy()
			for i, data := range sectors {
				put(t, d, 6+i, data)
			}
			done, list := d.Done(), slices.Clone(leaves)
			rehashes(t, d, g, want[len(want)-1], list...)
			if !slices.Equal(list, leaves) {
				t.Errorf("%v: Rehash has changed its list", g)
			}
			wrote := 0
			for _, is := range anew {
				if is {
					wrote++
				}
			}
			if d.Done() != done+wrote+1 || len(d.Waits()) != 0 {
				t.Errorf("%v: Rehash(%v) has done %d, want %d", g, leaves, d.Done()-done, wrote+1)
			}
			kept(t, d, laid(t, g, sectors, want))
		}
	}
}

// P13.2: the nodes that are not recomputed must be readable, all of them, the first one's error first; those that are recomputed need not be. Nothing is written in vain.
func TestRehashOthers(t *testing.T) {
	r := rand.New(rand.NewSource(6))
	bad := []string{sector.Zero(), raw(3, ""), raw(6, "")}
	errs := []api.Errno{api.ErrSum, api.ErrKind, api.ErrForm}
	for _, g := range []api.Geom{geometry(1, 2), geometry(5, 2), geometry(9, 3), geometry(28, 4)} {
		sectors := content(g.N, 6)
		digests := model(g, sectors)
		for _, leaves := range some(r, g.N) {
			anew := above(g, leaves)
			broken := laid(t, g, sectors, digests)
			for node, is := range anew {
				if is {
					put(t, broken, place(g, node), bad[node%3])
				}
			}
			rehashes(t, broken.Copy(), g, digests[len(digests)-1], leaves...)
			for node := len(digests) - 1; node >= 0; node-- {
				if !anew[node] {
					put(t, broken, place(g, node), bad[node%3])
					rehashFails(t, "a node that can not be read", broken, g, errs[node%3], leaves...)
				}
			}
		}
	}
}

// P13.2: without leaves Rehash is Get for the root: it asks for no other node, and writes nothing.
func TestRehashNone(t *testing.T) {
	r := rand.New(rand.NewSource(7))
	for _, g := range few() {
		digests := chance(r, total(g))
		root := len(digests) - 1
		d := laid(t, g, content(g.N, 1), digests)
		for node := range root {
			put(t, d, place(g, node), sector.Zero())
		}
		was := d.Copy()
		rehashes(t, d, g, digests[root])
		rehashes(t, d, g, digests[root], []int{}...)
		same(t, "without leaves", d, was)
		for data, want := range faults(root) {
			put(t, d, place(g, root), data)
			rehashFails(t, "the root's record", d, g, want)
		}
		rehashFails(t, "nil", nil, g, api.ErrNil)
		rehashFails(t, "down", fallen(t, d), g, api.ErrDown)
		rehashFails(t, "small", made(t, place(g, root)), g, api.ErrRange)
	}
}

// P13.2: a geometry that is not valid is told ahead of a number that is not that of a leaf, and that ahead of the disk.
func TestRehashArguments(t *testing.T) {
	for _, g := range wrong {
		for _, d := range []*disk.Disk{made(t, 1200), nil} {
			rehashFails(t, "no geometry", d, g, api.ErrGeom)
			rehashFails(t, "no geometry", d, g, api.ErrGeom, 0)
			rehashFails(t, "no geometry", d, g, api.ErrGeom, -1, math.MaxInt)
			if s, why := Full(d, g); s != "" || why != api.ErrGeom {
				t.Errorf("%v: Full = %x %d", g, s, why)
			}
		}
	}
	for _, g := range few() {
		up := laid(t, g, content(g.N, 1), model(g, content(g.N, 1)))
		for _, d := range []*disk.Disk{up, fresh(t, g, nil), fallen(t, up), made(t, 1), nil} {
			for _, leaf := range outside(g.N) {
				rehashFails(t, "no leaf", d, g, api.ErrRange, leaf)
				rehashFails(t, "no leaf", d, g, api.ErrRange, 0, leaf)
				rehashFails(t, "no leaf", d, g, api.ErrRange, leaf, g.N-1)
			}
			for node := g.N; node < total(g); node++ {
				rehashFails(t, "a node with children", d, g, api.ErrRange, node)
			}
		}
	}
}

// P13.2: a disk that is not there, is down, or has too few sectors: without the data sectors nothing is written, and otherwise what there is room for.
func TestFullDisk(t *testing.T) {
	for _, g := range []api.Geom{geometry(1, 2), geometry(2, 4), geometry(9, 2), geometry(17, 3)} {
		sectors := content(g.N, 8)
		want := model(g, sectors)
		rehashFails(t, "nil", nil, g, api.ErrNil, 0)
		rehashFails(t, "down", fallen(t, laid(t, g, sectors, want)), g, api.ErrDown, 0)
		for n := 1; n < place(g, len(want)); n++ {
			d := made(t, n)
			for i := 0; i < g.N && 6+i < n; i++ {
				put(t, d, 6+i, sectors[i])
			}
			d.Flush()
			if s, why := Full(d, g); s != "" || why != api.ErrRange {
				t.Errorf("%v: Full of %d sectors = %x %d", g, n, s, why)
			}
			waits(t, d, g, want, max(n-place(g, 0), 0))
		}
		d := made(t, place(g, len(want)))
		if _, why := Full(d, g); why != api.OK {
			t.Errorf("%v: Full of just as many sectors = %d", g, why)
		}
	}
}

// waits tells if not just the records of the first n nodes are pending, in their order.
func waits(t *testing.T, d *disk.Disk, g api.Geom, digests []string, n int) {
	t.Helper()
	var want []api.Put
	for node := range n {
		want = append(want, api.Put{At: place(g, node), Data: record(node, digests[node])})
	}
	if !slices.Equal(d.Waits(), want) {
		t.Errorf("%v: waits %v, want %v", g, d.Waits(), want)
	}
}

// P13.2: the error of each write, and of the flush. What was written ahead of it stays written; whatever is kept of it, Full mends it.
func TestFuse(t *testing.T) {
	r := rand.New(rand.NewSource(8))
	for _, g := range []api.Geom{geometry(1, 2), geometry(5, 2), geometry(9, 3), geometry(17, 4)} {
		sectors := content(g.N, 9)
		want := model(g, sectors)
		for fuse := range len(want) + 2 {
			d := fresh(t, g, sectors)
			d.Fuse(fuse)
			s, why := Full(d, g)
			if fuse == len(want)+1 {
				if s != want[len(want)-1] || why != api.OK {
					t.Errorf("%v: Full = %x %d", g, s, why)
				}
				continue
			}
			if s != "" || why != api.ErrDown || !d.Down() {
				t.Errorf("%v, fuse %d: Full = %x %d", g, fuse, s, why)
			}
			waits(t, d, g, want, fuse)
			d.Crash(r.Intn(2) == 0, r.Intn(2) == 0, true)
			d.Up()
			if _, why := Full(d, g); why != api.OK {
				t.Errorf("%v: Full behind a crash = %d", g, why)
			}
			all(t, "behind a crash", d, g, want)
		}
	}
}

// P13.2: Rehash of some leaves writes ascending, as far as the disk goes.
func TestRehashFuse(t *testing.T) {
	g := geometry(5, 2)
	before := model(g, content(5, 1))
	sectors := content(5, 2)
	want := remade(g, sectors, before, above(g, []int{3, 1}))
	order := []int{1, 3, 5, 6, 8, 10}
	for fuse := range 7 {
		d := laid(t, g, sectors, before)
		d.Fuse(fuse)
		if s, why := Rehash(d, g, 3, 1); s != "" || why != api.ErrDown {
			t.Errorf("fuse %d: Rehash = %x %d", fuse, s, why)
		}
		var l []api.Put
		for _, node := range order[:fuse] {
			l = append(l, api.Put{At: place(g, node), Data: record(node, want[node])})
		}
		if !slices.Equal(d.Waits(), l) {
			t.Errorf("fuse %d: waits %v, want %v", fuse, d.Waits(), l)
		}
	}
}

// P13.3: behind Full, and behind each Rehash of the sectors that were written, and perhaps of others, All returns the tree of the sectors.
func TestRows(t *testing.T) {
	r := rand.New(rand.NewSource(9))
	for _, g := range few() {
		sectors := content(g.N, 3)
		d := fresh(t, g, sectors)
		if _, why := Full(d, g); why != api.OK {
			t.Fatalf("%v: Full = %d", g, why)
		}
		all(t, "Full", d, g, model(g, sectors))
		for range 12 {
			var leaves []int
			for range 1 + r.Intn(g.N) {
				i := r.Intn(g.N)
				leaves = append(leaves, i)
				if r.Intn(4) > 0 {
					sectors[i] = sector.Mix(r.Uint64())
					put(t, d, 6+i, sectors[i])
				}
			}
			want := model(g, sectors)
			rehashes(t, d, g, want[len(want)-1], leaves...)
			all(t, "Rehash", d, g, want)
		}
	}
}
