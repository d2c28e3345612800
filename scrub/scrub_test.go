package scrub

import (
	"crypto/sha256"
	"encoding/binary"
	"hash/crc32"
	"math"
	"math/rand"
	"slices"
	"strings"
	"testing"

	"pentimento/api"
	"pentimento/disk"
	"pentimento/nodes"
	"pentimento/sector"
)

// few are some valid geometries: the least and the greatest, of several trees.
func few() []api.Geom {
	return []api.Geom{
		{N: 1, F: 2, Undo: 1},
		{N: 2, F: 4, Undo: 1},
		{N: 3, F: 2, Cow: 1, Undo: 5},
		{N: 5, F: 2, Cow: 3, Undo: 16},
		{N: 9, F: 3, Cow: 7, Undo: 4},
		{N: 17, F: 4, Cow: 30, Undo: 40},
		{N: 128, F: 2, Cow: 64, Undo: 320},
	}
}

// unfit are geometries that are not valid.
func unfit() []api.Geom {
	return []api.Geom{
		{}, {N: 0, F: 2, Undo: 1}, {N: 129, F: 2, Undo: 1}, {N: 5, F: 1, Undo: 1}, {N: 5, F: 5, Undo: 1},
		{N: 5, F: 2, Cow: -1, Undo: 1}, {N: 5, F: 2, Cow: 65, Undo: 1}, {N: 5, F: 2}, {N: 5, F: 2, Undo: 321},
		{N: math.MaxInt, F: math.MaxInt, Cow: math.MaxInt, Undo: math.MaxInt}, {N: math.MinInt, F: math.MinInt, Cow: math.MinInt, Undo: math.MinInt},
	}
}

// num is a number in so many bytes.
func num(width int, n uint64) string {
	return string(binary.BigEndian.AppendUint64(nil, n)[8-width:])
}

// raw is the sector of a record with this kind and body.
func raw(kind byte, body string) string {
	full := string([]byte{kind, byte(len(body))}) + body
	full += strings.Repeat("\x00", 60-len(full))
	return full + num(4, uint64(crc32.Checksum([]byte(full), crc32.MakeTable(crc32.Castagnoli))))
}

// nodeSector is the record of a node.
func nodeSector(node int, digest string) string {
	return raw(6, num(2, uint64(node))+digest)
}

// hash is the digest of bytes behind a first one, that of leaves or of other nodes.
func hash(first byte, s string) string {
	d := sha256.Sum256([]byte(string([]byte{first}) + s))
	return string(d[:])
}

// shape is the first node of each level, and behind these the number of all nodes.
func shape(g api.Geom) []int {
	out, n := []int{0, g.N}, g.N
	for n > 1 {
		n = (n + g.F - 1) / g.F
		out = append(out, out[len(out)-1]+n)
	}
	return out
}

// count is how many nodes there are.
func count(g api.Geom) int { return slices.Max(shape(g)) }

// family is a node's children.
func family(g api.Geom, node int) []int {
	s := shape(g)
	var out []int
	for level := 1; level < len(s)-1; level++ {
		for child := s[level-1]; child < s[level]; child++ {
			if s[level]+(child-s[level-1])/g.F == node {
				out = append(out, child)
			}
		}
	}
	return out
}

// isAbove reports whether a node is a leaf, or above it.
func isAbove(g api.Geom, node, leaf int) bool {
	return node == leaf || slices.ContainsFunc(family(g, node), func(child int) bool { return isAbove(g, child, leaf) })
}

// digestAt is what the record of a node has, and nothing if that can not be read.
func digestAt(d *disk.Disk, g api.Geom, node int) string {
	data, _ := d.Read(6 + g.N + node)
	if data[1] == 34 && data == nodeSector(node, data[4:36]) {
		return data[4:36]
	}
	return ""
}

// model is what Find returns, by the document's words.
func model(d *disk.Disk, g api.Geom, but ...int) []int {
	var out []int
	for node := range count(g) {
		if slices.ContainsFunc(but, func(leaf int) bool { return leaf < g.N && isAbove(g, node, leaf) }) {
			continue
		}
		has, all, first, known := digestAt(d, g, node), "", byte(1), true
		for _, child := range family(g, node) {
			all += digestAt(d, g, child)
			known = known && digestAt(d, g, child) != ""
		}
		if node < g.N {
			all, _ = d.Read(6 + node)
			first = 0
		}
		if has == "" || known && has != hash(first, all) {
			out = append(out, node)
		}
	}
	return out
}

// made returns a disk with n sectors.
func made(t *testing.T, n int) *disk.Disk {
	t.Helper()
	d, why := disk.New(n)
	if why != api.OK {
		t.Fatalf("disk.New(%d) = %d", n, why)
	}
	return d
}

// put writes a sector.
func put(t *testing.T, d *disk.Disk, at int, data string) {
	t.Helper()
	if why := d.Write(at, data); why != api.OK {
		t.Fatalf("Write(%d) = %d", at, why)
	}
}

// fallen is a disk that is down.
func fallen(d *disk.Disk) *disk.Disk {
	d = d.Copy()
	d.Crash()
	return d
}

// laid is a disk that has sectors of their own bytes, and the tree of these, with as many sectors behind it.
func laid(t *testing.T, g api.Geom, behind int) *disk.Disk {
	t.Helper()
	d := made(t, 6+g.N+count(g)+behind)
	for at := range 6 + g.N {
		put(t, d, at, sector.Mix(uint64(at)))
	}
	if _, why := nodes.Full(d, g); why != api.OK {
		t.Fatalf("Full = %d", why)
	}
	return d
}

// same tells if a disk is not as another one, with its pending writes.
func same(t *testing.T, what string, d, want *disk.Disk) {
	t.Helper()
	if d.Done() != want.Done() || d.Down() != want.Down() || !slices.Equal(d.Waits(), want.Waits()) {
		t.Fatalf("%s: done %d, want %d; down %t, want %t; waits %v, want %v", what, d.Done(), want.Done(), d.Down(), want.Down(), d.Waits(), want.Waits())
	}
	for at := range want.Len() {
		a, _ := d.Kept(at)
		b, _ := want.Kept(at)
		if a != b {
			t.Fatalf("%s: sector %d is %q, want %q", what, at, a, b)
		}
	}
}

// finds tells if Find does not return these nodes, or changes the disk or its list.
func finds(t *testing.T, d *disk.Disk, g api.Geom, want []int, but ...int) {
	t.Helper()
	was, list := d.Copy(), slices.Clone(but)
	got, why := Find(d, g, but...)
	if why != api.OK || !slices.Equal(got, want) {
		t.Fatalf("%v: Find(%v) = %v %d, want %v", g, but, got, why, want)
	}
	if !slices.Equal(but, list) {
		t.Fatal("Find has changed its list")
	}
	same(t, "Find", d, was)
}

// P20.1, P20.2: the document's example: of a disk whose tree was made nothing is found, whatever leaves are told.
func TestExample(t *testing.T) {
	for _, g := range few() {
		for _, behind := range []int{0, 3} {
			d := laid(t, g, behind)
			finds(t, d, g, nil)
			finds(t, d, g, nil, 0, g.N-1)
		}
	}
}

// P20.1, P20.4: a changed sector is found as its leaf, and nothing else is, flushed or not.
func TestSectors(t *testing.T) {
	for _, g := range few() {
		d := laid(t, g, 0)
		for i := range g.N {
			x := d.Copy()
			data, _ := d.Read(6 + i)
			for _, at := range []int{0, 31, 63} {
				put(t, x, 6+i, data[:at]+string([]byte{data[at] ^ 1})+data[at+1:])
				finds(t, x, g, []int{i})
			}
			x.Flush()
			finds(t, x, g, []int{i})
			put(t, x, 6+(i+3)%g.N, sector.Fill(1))
			finds(t, x, g, model(x, g))
		}
		var all []int
		for i := range g.N {
			put(t, d, 6+i, sector.Fill(9))
			all = append(all, i)
		}
		finds(t, d, g, all)
	}
}

// P20.1: a node whose digest is another one is found, and the one above it; a node whose record can not be read is found alone, as nobody knows what is to be above it.
func TestNodes(t *testing.T) {
	for _, g := range few() {
		d := laid(t, g, 0)
		for node := range count(g) {
			at := 6 + g.N + node
			x := d.Copy()
			put(t, x, at, nodeSector(node, strings.Repeat("o", 32)))
			want := []int{node}
			for up := range count(g) {
				if slices.Contains(family(g, up), node) {
					want = append(want, up)
				}
			}
			finds(t, x, g, want)
			right := nodeSector(node, digestAt(d, g, node))
			for _, s := range []string{
				sector.Zero(), right[:9] + "x" + right[10:], raw(2, right[2:36]), raw(9, right[2:36]), nodeSector(node+1, right[4:36]),
				raw(6, right[2:35]), raw(6, right[2:36]+"x"), raw(6, ""),
			} {
				put(t, x, at, s)
				finds(t, x, g, []int{node})
			}
		}
	}
}

// P20.1: leaves that are excluded, and all above them, are not found, whatever is wrong with them; all else is. What is no leaf excludes nothing.
func TestBut(t *testing.T) {
	g := few()[3]
	d := laid(t, g, 0)
	put(t, d, 6+1, sector.Fill(1))
	put(t, d, 6+4, sector.Fill(1))
	finds(t, d, g, []int{1, 4})
	finds(t, d, g, []int{4}, 1)
	finds(t, d, g, []int{1}, 4, 4, 3)
	finds(t, d, g, nil, 4, 1)
	for _, other := range []int{5, 6, 10, 11, -1, 128, 1 << 32, 1<<32 + 1, math.MaxInt, math.MinInt} {
		finds(t, d, g, []int{1, 4}, other)
		finds(t, d, g, []int{4}, other, 1, other)
	}
	for node := range count(g) {
		put(t, d, 6+g.N+node, sector.Zero())
	}
	// Nodes 5, 8 and 10 are above leaf 1, and nodes 7, 9 and 10 above leaf 4.
	finds(t, d, g, []int{0, 2, 3, 4, 6, 7, 9}, 1)
	finds(t, d, g, []int{0, 1, 2, 3, 5, 6, 8}, 4)
	finds(t, d, g, []int{0, 2, 3, 6}, 1, 4)
	finds(t, d, g, nil, 0, 1, 2, 3, 4)
}

// P20.1: anything may be wrong, and anything may be excluded.
func TestFind(t *testing.T) {
	r := rand.New(rand.NewSource(20))
	for _, g := range few() {
		d := laid(t, g, 2)
		for range 40 {
			x := d.Copy()
			for range r.Intn(4) {
				at := 6 + r.Intn(g.N+count(g))
				switch node := at - 6 - g.N; {
				case node < 0 || r.Intn(2) == 0:
					put(t, x, at, sector.Mix(r.Uint64()))
				default:
					put(t, x, at, nodeSector(node, strings.Repeat("o", 32)))
				}
			}
			var but []int
			for range r.Intn(4) {
				but = append(but, r.Intn(g.N+2)-1)
			}
			but = slices.DeleteFunc(but, func(leaf int) bool { return leaf < 0 })
			finds(t, x, g, model(x, g, but...), but...)
			finds(t, x, g, model(x, g))
		}
	}
}

// findFails tells if Find, Mend or Equal with itself do not return this error, or something beside it.
func findFails(t *testing.T, what string, d *disk.Disk, g api.Geom, want api.Errno) {
	t.Helper()
	for _, but := range [][]int{nil, {0}, {-1, 5}} {
		if l, why := Find(d, g, but...); len(l) != 0 || why != want {
			t.Errorf("%s, %v: Find = %v %d, want %d", what, g, l, why, want)
		}
	}
	was := d.Copy()
	if n, why := Mend(d, g); n != 0 || why != want {
		t.Errorf("%s, %v: Mend = %d %d, want %d", what, g, n, why, want)
	}
	if d != nil {
		same(t, what, d, was)
	}
}

// P20.1, P20.2: a geometry that is not valid, ahead of the disk's errors: a disk that there is not, that is down, that ends too early.
func TestErrors(t *testing.T) {
	g := few()[3]
	d := laid(t, g, 0)
	for _, g := range unfit() {
		for _, d := range []*disk.Disk{d, fallen(d), made(t, 1), nil} {
			findFails(t, "geometry", d, g, api.ErrGeom)
			if l, why := Equal(d, nil, g); len(l) != 0 || why != api.ErrGeom {
				t.Errorf("Equal = %v %d", l, why)
			}
		}
	}
	findFails(t, "nil", nil, g, api.ErrNil)
	findFails(t, "down", fallen(d), g, api.ErrDown)
	for n := 1; n < d.Len(); n++ {
		findFails(t, "small", made(t, n), g, api.ErrRange)
		findFails(t, "small, and down", fallen(made(t, n)), g, api.ErrDown)
	}
	findFails(t, "nothing", &disk.Disk{}, g, api.ErrRange)
}

// P20.2, P20.3: Mend returns how many nodes were wrong, and makes all of them anew; nothing is found then.
func TestMend(t *testing.T) {
	r := rand.New(rand.NewSource(21))
	for _, g := range few() {
		for _, n := range []int{0, 1, 2, 5, 100} {
			d := laid(t, g, 1)
			for range n {
				put(t, d, 6+r.Intn(g.N+count(g)), sector.Mix(r.Uint64()))
			}
			x := d.Copy()
			nodes.Full(x, g)
			want := len(model(d, g))
			if got, why := Mend(d, g); got != want || why != api.OK {
				t.Errorf("%v: Mend = %d %d, want %d", g, got, why, want)
			}
			same(t, "Mend", d, x)
			finds(t, d, g, nil)
			if got, why := Mend(d, g); got != 0 || why != api.OK {
				t.Errorf("%v: Mend = %d %d", g, got, why)
			}
		}
	}
	// A disk that has no tree at all.
	d := made(t, 6+5+11)
	if got, why := Mend(d, few()[3]); got != 11 || why != api.OK {
		t.Errorf("Mend = %d %d", got, why)
	}
}

// P20.2: the error of each write and of the flush ends Mend, without a number beside it.
func TestMendFuse(t *testing.T) {
	g := few()[3]
	for fuse := range 13 {
		d := laid(t, g, 0)
		put(t, d, 6, sector.Fill(1))
		d.Fuse(fuse)
		x := d.Copy()
		_, want := nodes.Full(x, g)
		n, why := Mend(d, g)
		if why != want || (want == api.OK) != (fuse == 12) || n != 0 && fuse < 12 || n != 1 && fuse == 12 {
			t.Errorf("fuse %d: Mend = %d %d, want %d", fuse, n, why, want)
		}
		same(t, "fuse", d, x)
	}
}

// P20.2: Kinds returns the kind of each record, and 0 for what is none, flushed or not.
func TestKinds(t *testing.T) {
	d := made(t, 14)
	want := make([]int, 14)
	for kind := range byte(12) {
		put(t, d, int(kind)+1, raw(kind, "ab"))
		if kind >= 1 && kind <= 8 {
			want[kind+1] = int(kind)
		}
	}
	put(t, d, 2, raw(1, "")[:63]+"x")
	put(t, d, 13, raw(5, strings.Repeat("b", 58)))
	want[2], want[13] = 0, 5
	for range 2 {
		if l, why := Kinds(d); !slices.Equal(l, want) || why != api.OK {
			t.Errorf("Kinds = %v %d, want %v", l, why, want)
		}
		d.Flush()
	}
	l, _ := Kinds(d)
	l[0] = 7
	_ = append(l[:3], 8)
	if l, _ := Kinds(d); !slices.Equal(l, want) {
		t.Errorf("Kinds = %v", l)
	}
	if l, why := Kinds(made(t, 1200)); !slices.Equal(l, make([]int, 1200)) || why != api.OK {
		t.Errorf("Kinds = %v %d", l, why)
	}
	if l, why := Kinds(fallen(d)); len(l) != 0 || why != api.ErrDown {
		t.Errorf("Kinds = %v %d", l, why)
	}
	if l, why := Kinds(nil); len(l) != 0 || why != api.ErrNil {
		t.Errorf("Kinds = %v %d", l, why)
	}
}

// equals tells if Equal does not return these sectors.
func equals(t *testing.T, what string, a, b *disk.Disk, g api.Geom, want []int, fault api.Errno) {
	t.Helper()
	if l, why := Equal(a, b, g); !slices.Equal(l, want) || why != fault {
		t.Errorf("%s: Equal = %v %d, want %v %d", what, l, why, want, fault)
	}
}

// P20.2: Equal returns the data sectors that differ, and nothing of what is around these.
func TestEqual(t *testing.T) {
	for _, g := range few() {
		a, b := laid(t, g, 0), made(t, 6+g.N)
		for i := range g.N {
			data, _ := a.Read(6 + i)
			put(t, b, 6+i, data)
		}
		equals(t, "alike", a, b, g, nil, api.OK)
		equals(t, "alike", b, a, g, nil, api.OK)
		equals(t, "itself", a, a, g, nil, api.OK)
		var want []int
		for i := g.N - 1; i >= 0; i -= 2 {
			data, _ := a.Read(6 + i)
			put(t, b, 6+i, data[:63]+string([]byte{data[63] ^ 0x80}))
			want = append([]int{i}, want...)
			equals(t, "others", a, b, g, want, api.OK)
			equals(t, "others", b, a, g, want, api.OK)
		}
	}
}

// P20.2: of two disks that can not be read the error of the first one is told, sector by sector.
func TestEqualErrors(t *testing.T) {
	g := few()[3]
	right, small, smaller := made(t, 11), made(t, 10), made(t, 6)
	put(t, right, 6, sector.Fill(1))
	down := fallen(right)
	equals(t, "right", right, made(t, 11), g, []int{0}, api.OK)
	equals(t, "first down", down, nil, g, nil, api.ErrDown)
	equals(t, "first nil", nil, down, g, nil, api.ErrNil)
	equals(t, "second down", right, down, g, nil, api.ErrDown)
	equals(t, "second nil", right, nil, g, nil, api.ErrNil)
	equals(t, "both nil", nil, nil, g, nil, api.ErrNil)
	equals(t, "first small", small, right, g, nil, api.ErrRange)
	equals(t, "second small", right, small, g, nil, api.ErrRange)
	equals(t, "first small, second nil", small, nil, g, nil, api.ErrNil)
	equals(t, "first smaller, second nil", smaller, nil, g, nil, api.ErrRange)
	equals(t, "first small, second down", small, down, g, nil, api.ErrDown)
}
