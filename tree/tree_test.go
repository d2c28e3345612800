package tree

import (
	"crypto/sha256"
	"math"
	"math/rand"
	"slices"
	"strings"
	"testing"

	"pentimento/api"
	"pentimento/sector"
)

// geometry is a valid one of so many data sectors and children.
func geometry(n, f int) api.Geom { return api.Geom{N: n, F: f, Cow: n % 65, Undo: 1 + n} }

// shapes are the valid geometries, of all shapes of trees.
func shapes() []api.Geom {
	var out []api.Geom
	for n := 1; n <= 128; n++ {
		for f := 2; f <= 4; f++ {
			out = append(out, geometry(n, f))
		}
	}
	return out
}

// few are some of them: the least and the greatest, those that their levels fill, and those of which a node has one child.
func few() []api.Geom {
	var out []api.Geom
	for _, n := range []int{1, 2, 3, 4, 5, 7, 8, 9, 16, 17, 27, 28, 64, 65, 127, 128} {
		for f := 2; f <= 4; f++ {
			out = append(out, geometry(n, f))
		}
	}
	return out
}

// wrong are geometries that are not valid.
var wrong = []api.Geom{
	{}, {N: 0, F: 2, Undo: 1}, {N: -1, F: 2, Undo: 1}, {N: 129, F: 2, Undo: 1}, {N: math.MinInt, F: 2, Undo: 1}, {N: math.MaxInt, F: 4, Undo: 1},
	{N: 2, F: 1, Undo: 1}, {N: 2, F: 0, Undo: 1}, {N: 2, F: 5, Undo: 1}, {N: 2, F: -2, Undo: 1},
	{N: 2, F: 2, Cow: -1, Undo: 1}, {N: 2, F: 2, Cow: 65, Undo: 1}, {N: 2, F: 2, Undo: 0}, {N: 2, F: 2, Undo: 321}, {N: 2, F: 2, Undo: -1},
}

// outside are numbers that no node has, in a tree of count nodes.
func outside(count int) []int {
	return []int{-1, -2, count, count + 1, 255, 1 << 32, math.MaxInt, math.MinInt, math.MinInt + 1}
}

// below returns the children of each node, of leaves none: by the definition's words, level by level.
func below(n, f int) [][]int {
	out := make([][]int, n)
	level := make([]int, n)
	for i := range level {
		level[i] = i
	}
	for len(level) > 1 {
		var next []int
		for len(level) > 0 {
			k := min(f, len(level))
			next = append(next, len(out))
			out = append(out, level[:k])
			level = level[k:]
		}
		level = next
	}
	return out
}

// of is a digest by the library.
func of(mark byte, parts ...string) string {
	d := sha256.Sum256([]byte(string([]byte{mark}) + strings.Join(parts, "")))
	return string(d[:])
}

// node is the digest of a node with these children.
func node(digests []string, children []int) string {
	var parts []string
	for _, c := range children {
		parts = append(parts, digests[c])
	}
	return of(1, parts...)
}

// model is the digests of the tree of sectors.
func model(g api.Geom, sectors []string) []string {
	var out []string
	for i, children := range below(g.N, g.F) {
		if i < g.N {
			out = append(out, of(0, sectors[i]))
		} else {
			out = append(out, node(out, children))
		}
	}
	return out
}

// badOf are the nodes whose digests are not those of their children.
func badOf(g api.Geom, digests []string) []int {
	var out []int
	for i, children := range below(g.N, g.F) {
		if len(children) > 0 && digests[i] != node(digests, children) {
			out = append(out, i)
		}
	}
	return out
}

// diffOf are the leaves that differ, and how many nodes are examined: those of the root, and of each node that differs the children.
func diffOf(g api.Geom, a, b []string) ([]int, int) {
	children := below(g.N, g.F)
	examined := map[int]bool{len(children) - 1: true}
	var leaves []int
	for i := len(children) - 1; i >= 0; i-- {
		if !examined[i] || a[i] == b[i] {
			continue
		}
		if i < g.N {
			leaves = append(leaves, i)
		}
		for _, c := range children[i] {
			examined[c] = true
		}
	}
	slices.Reverse(leaves)
	return leaves, len(examined)
}

// content is n sectors, of which no two are alike.
func content(n int, seed byte) []string {
	var out []string
	for i := range n {
		out = append(out, strings.Repeat(string([]byte{seed, byte(i), 0xff, byte(i) ^ seed}), 16))
	}
	return out
}

// chance is n digests by chance.
func chance(r *rand.Rand, n int) []string {
	var out []string
	for range n {
		b := make([]byte, 32)
		r.Read(b)
		out = append(out, string(b))
	}
	return out
}

// made returns the tree of sectors.
func made(t *testing.T, g api.Geom, sectors []string) *Tree {
	t.Helper()
	tr, why := New(g, sectors...)
	if why != api.OK {
		t.Fatalf("New(%v) = %d", g, why)
	}
	return tr
}

// from returns the tree with digests.
func from(t *testing.T, g api.Geom, digests []string) *Tree {
	t.Helper()
	tr, why := From(g, digests...)
	if why != api.OK {
		t.Fatalf("From(%v) = %d", g, why)
	}
	return tr
}

// has tells if the tree does not have just these digests, by each of its methods.
func has(t *testing.T, what string, tr *Tree, g api.Geom, digests []string) {
	t.Helper()
	if tr.Geom() != g || !slices.Equal(tr.All(), digests) {
		t.Fatalf("%s, %v: Geom %v, All %x, want %x", what, g, tr.Geom(), tr.All(), digests)
	}
	if tr.Root() != digests[len(digests)-1] {
		t.Errorf("%s, %v: Root %x", what, g, tr.Root())
	}
	for i, want := range digests {
		if d, why := tr.Digest(i); d != want || why != api.OK {
			t.Errorf("%s, %v: Digest(%d) = %x %d, want %x", what, g, i, d, why, want)
		}
	}
	for _, i := range outside(len(digests)) {
		if d, why := tr.Digest(i); d != "" || why != api.ErrRange {
			t.Errorf("%s, %v: Digest(%d) = %x %d", what, g, i, d, why)
		}
	}
	if bad := tr.Bad(); !slices.Equal(bad, badOf(g, digests)) {
		t.Errorf("%s, %v: Bad %v, want %v", what, g, bad, badOf(g, digests))
	}
}

// P12.1: New of all shapes, against the library's digests; nothing is bad in it. Its list is neither changed nor kept.
func TestNew(t *testing.T) {
	for _, g := range shapes() {
		sectors := content(g.N, byte(g.F))
		list := slices.Clone(sectors)
		tr := made(t, g, list)
		if !slices.Equal(list, sectors) {
			t.Errorf("%v: New has changed its list", g)
		}
		list[0] = sector.Fill(9)
		has(t, "New", tr, g, model(g, sectors))
		if bad := tr.Bad(); len(bad) != 0 {
			t.Errorf("%v: New: Bad %v", g, bad)
		}
	}
}

// P12.1: a tree told node by node, whose last nodes have one child each.
func TestFive(t *testing.T) {
	g := api.Geom{N: 5, F: 2, Undo: 1}
	s := []string{sector.Fill(1), sector.Fill(2), sector.Zero(), sector.Fill(1), sector.Fill(5)}
	l := []string{of(0, s[0]), of(0, s[1]), of(0, s[2]), of(0, s[3]), of(0, s[4])}
	m := []string{of(1, l[0], l[1]), of(1, l[2], l[3]), of(1, l[4])}
	k := []string{of(1, m[0], m[1]), of(1, m[2])}
	want := slices.Concat(l, m, k, []string{of(1, k[0], k[1])})
	has(t, "five", made(t, g, s), g, want)
}

// P12.1: with one sector its digest is the root's.
func TestOne(t *testing.T) {
	for f := 2; f <= 4; f++ {
		tr := made(t, geometry(1, f), []string{sector.Zero()})
		if tr.Root() != of(0, sector.Zero()) || len(tr.All()) != 1 || len(tr.Bad()) != 0 {
			t.Errorf("F %d: %x", f, tr.All())
		}
	}
}

// P12.1: From takes digests as they are, belong they together or not. Its list is neither changed nor kept.
func TestFrom(t *testing.T) {
	r := rand.New(rand.NewSource(12))
	for _, g := range shapes() {
		for _, digests := range [][]string{model(g, content(g.N, 3)), chance(r, len(below(g.N, g.F)))} {
			list := slices.Clone(digests)
			tr := from(t, g, list)
			if !slices.Equal(list, digests) {
				t.Errorf("%v: From has changed its list", g)
			}
			list[0], list[len(list)-1] = "", ""
			has(t, "From", tr, g, digests)
		}
	}
}

// lists are what is wrong with a list of so many parts of a length: too few of them, too many, and those of which one has another length.
func lists(count, length int) (long, lengths [][]string) {
	right := slices.Repeat([]string{strings.Repeat("a", length)}, 2*count+200)
	for _, n := range []int{0, 1, count - 1, count + 1, 2*count + 1, count + 200} {
		if n != count {
			long = append(long, right[:n], slices.Repeat([]string{"short"}, n))
		}
	}
	for _, n := range []int{0, 1, length - 1, length + 1, 2 * length, 1000} {
		for _, i := range []int{0, count / 2, count - 1} {
			l := slices.Clone(right[:count])
			l[i] = strings.Repeat("a", n)
			lengths = append(lengths, l)
		}
	}
	return long, lengths
}

// P12.1: New's and From's errors, each of them ahead of those behind it.
func TestMakeErrors(t *testing.T) {
	type maker func(api.Geom, ...string) (*Tree, api.Errno)
	refuses := func(what string, of maker, g api.Geom, l []string, want api.Errno) {
		t.Helper()
		if tr, why := of(g, l...); tr != nil || why != want {
			t.Errorf("%s(%v) of %d parts = %v %d, want %d", what, g, len(l), tr, why, want)
		}
	}
	for _, g := range wrong {
		for _, l := range [][]string{nil, {"short"}, {sector.Zero()}, {sector.Zero(), sector.Zero()}, {of(0), of(0), of(0)}} {
			refuses("New", New, g, l, api.ErrGeom)
			refuses("From", From, g, l, api.ErrGeom)
		}
	}
	for _, g := range few() {
		long, lengths := lists(g.N, 64)
		for _, l := range long {
			refuses("New", New, g, l, api.ErrLong)
		}
		for _, l := range lengths {
			refuses("New", New, g, l, api.ErrLength)
		}
		long, lengths = lists(len(below(g.N, g.F)), 32)
		for _, l := range long {
			refuses("From", From, g, l, api.ErrLong)
		}
		for _, l := range lengths {
			refuses("From", From, g, l, api.ErrLength)
		}
	}
}

// empty tells if the tree has anything.
func empty(t *testing.T, tr *Tree, want api.Errno) {
	t.Helper()
	if tr.Root() != "" || len(tr.All()) != 0 || len(tr.Bad()) != 0 || tr.Geom() != (api.Geom{}) {
		t.Errorf("Root %x, All %x, Bad %v, Geom %v", tr.Root(), tr.All(), tr.Bad(), tr.Geom())
	}
	for _, i := range append(outside(1), 0) {
		if d, why := tr.Digest(i); d != "" || why != want {
			t.Errorf("Digest(%d) = %x %d", i, d, why)
		}
		if why := tr.Set(i, sector.Zero()); why != want {
			t.Errorf("Set(%d) = %d", i, why)
		}
		if why := tr.Set(i, "short"); why != want {
			t.Errorf("Set(%d) of no sector = %d", i, why)
		}
	}
}

// differs tells if Diff does not return this error, and nothing beside it.
func differs(t *testing.T, a, b *Tree, want api.Errno) {
	t.Helper()
	if l, n, why := a.Diff(b); len(l) != 0 || n != 0 || why != want {
		t.Errorf("Diff of %v and %v = %v %d %d, want %d", a.Geom(), b.Geom(), l, n, why, want)
	}
}

// P12.1, P12.2, P12.3: a nil tree; and one that was not made by New or From has no nodes.
func TestNone(t *testing.T) {
	some := made(t, geometry(3, 2), content(3, 1))
	empty(t, nil, api.ErrNil)
	if (*Tree)(nil).Copy() != nil {
		t.Error("nil has a copy")
	}
	differs(t, nil, nil, api.ErrNil)
	differs(t, nil, some, api.ErrNil)
	differs(t, some, nil, api.ErrNil)
	empty(t, &Tree{}, api.ErrRange)
	empty(t, (&Tree{}).Copy(), api.ErrRange)
	differs(t, &Tree{}, nil, api.ErrNil)
	differs(t, &Tree{}, some, api.ErrGeom)
	differs(t, some, &Tree{}, api.ErrGeom)
	differs(t, &Tree{}, &Tree{}, api.OK)
}

// P12.2, P12.4: behind each Set the tree is that of the sectors that are then present.
func TestSet(t *testing.T) {
	r := rand.New(rand.NewSource(2))
	for _, g := range few() {
		sectors := content(g.N, 7)
		tr := made(t, g, sectors)
		set := func(leaf int, data string) {
			sectors[leaf] = data
			if why := tr.Set(leaf, data); why != api.OK {
				t.Fatalf("%v: Set(%d) = %d", g, leaf, why)
			}
			if want := model(g, sectors); !slices.Equal(tr.All(), want) || len(tr.Bad()) != 0 {
				t.Fatalf("%v: behind Set(%d): %x, want %x", g, leaf, tr.All(), want)
			}
		}
		for leaf := range g.N {
			set(leaf, sector.Fill(byte(leaf)))
		}
		for range 20 {
			set(r.Intn(g.N), sector.Mix(r.Uint64()))
		}
		set(g.N-1, sectors[g.N-1])
		set(0, sector.Zero())
		has(t, "Set", tr, g, model(g, sectors))
	}
}

// P12.2: of a tree that is bad Set mends what is above the leaf, with the other digests as they are there.
func TestSetBad(t *testing.T) {
	r := rand.New(rand.NewSource(4))
	for _, g := range few() {
		children := below(g.N, g.F)
		for leaf := range g.N {
			digests := chance(r, len(children))
			tr := from(t, g, digests)
			if why := tr.Set(leaf, sector.Fill(8)); why != api.OK {
				t.Fatalf("%v: Set(%d) = %d", g, leaf, why)
			}
			digests[leaf] = of(0, sector.Fill(8))
			last := leaf
			for i, l := range children {
				if slices.Contains(l, last) {
					digests[i] = node(digests, l)
					last = i
				}
			}
			has(t, "Set of a bad tree", tr, g, digests)
		}
	}
}

// P12.2: Set's errors, the leaf's ahead of the sector's; none changes the tree. A node with children is no leaf.
func TestSetErrors(t *testing.T) {
	for _, g := range few() {
		want := model(g, content(g.N, 5))
		tr := from(t, g, want)
		for _, leaf := range outside(g.N) {
			for _, data := range []string{sector.Fill(1), "", "short"} {
				if why := tr.Set(leaf, data); why != api.ErrRange {
					t.Errorf("%v: Set(%d) = %d", g, leaf, why)
				}
			}
		}
		for _, n := range []int{0, 1, 32, 63, 65, 128} {
			for _, leaf := range []int{0, g.N - 1} {
				if why := tr.Set(leaf, strings.Repeat("a", n)); why != api.ErrLength {
					t.Errorf("%v: Set(%d) of %d bytes = %d", g, leaf, n, why)
				}
			}
		}
		has(t, "behind errors", tr, g, want)
	}
}

// P12.2: of one changed digest the node itself is bad, if it has children, and its parent.
func TestBad(t *testing.T) {
	for _, g := range few() {
		children := below(g.N, g.F)
		right := model(g, content(g.N, 6))
		for i := range right {
			var want []int
			for j, l := range children {
				if j == i && len(l) > 0 || slices.Contains(l, i) {
					want = append(want, j)
				}
			}
			digests := slices.Clone(right)
			digests[i] = of(2)
			if bad := from(t, g, digests).Bad(); !slices.Equal(bad, want) {
				t.Errorf("%v: node %d changed: Bad %v, want %v", g, i, bad, want)
			}
		}
	}
}

// compares tells if Diff of two trees is not by the definition, either way round.
func compares(t *testing.T, g api.Geom, a, b *Tree) {
	t.Helper()
	leaves, examined := diffOf(g, a.All(), b.All())
	for _, pair := range [][2]*Tree{{a, b}, {b, a}} {
		if l, n, why := pair[0].Diff(pair[1]); !slices.Equal(l, leaves) || n != examined || why != api.OK {
			t.Fatalf("%v: Diff = %v %d %d, want %v %d", g, l, n, why, leaves, examined)
		}
	}
}

// P12.3: a tree and itself, and the tree of the same sectors: one node is examined.
func TestDiffNone(t *testing.T) {
	for _, g := range shapes() {
		a, b := made(t, g, content(g.N, 1)), made(t, g, content(g.N, 1))
		for _, o := range []*Tree{a, b, a.Copy()} {
			if l, n, why := a.Diff(o); len(l) != 0 || n != 1 || why != api.OK {
				t.Errorf("%v: Diff = %v %d %d", g, l, n, why)
			}
		}
	}
}

// P12.3: told number by number, of a tree with levels of 5, 3, 2 and 1 nodes.
func TestDiffFive(t *testing.T) {
	g := api.Geom{N: 5, F: 2, Undo: 1}
	cases := []struct {
		changed  []int
		examined int
	}{{nil, 1}, {[]int{0}, 7}, {[]int{1}, 7}, {[]int{0, 1}, 7}, {[]int{3}, 7}, {[]int{1, 2}, 9}, {[]int{4}, 5}, {[]int{0, 4}, 9}, {[]int{0, 1, 2, 3, 4}, 11}}
	for _, c := range cases {
		sectors := content(5, 1)
		a := made(t, g, sectors)
		for _, i := range c.changed {
			sectors[i] = sector.Fill(7)
		}
		if l, n, why := a.Diff(made(t, g, sectors)); !slices.Equal(l, c.changed) || n != c.examined || why != api.OK {
			t.Errorf("%v changed: Diff = %v %d %d, want %d", c.changed, l, n, why, c.examined)
		}
	}
}

// P12.3, P12.5: each leaf alone, and any leaves together: just those that have other sectors are returned, and no more nodes are examined than may be.
func TestDiff(t *testing.T) {
	r := rand.New(rand.NewSource(5))
	for _, g := range shapes() {
		sectors := content(g.N, 1)
		a := made(t, g, sectors)
		height := 0
		for n := g.N; n > 1; n = (n + g.F - 1) / g.F {
			height++
		}
		for k := range 12 {
			b := a.Copy()
			var want []int
			for i := range g.N {
				if k == 11 || i == k*g.N/11 || k > 5 && r.Intn(k) == 0 {
					b.Set(i, sector.Fill(7))
					want = append(want, i)
				}
			}
			l, n, why := a.Diff(b)
			if !slices.Equal(l, want) || why != api.OK || n > 1+g.F*height*len(want) {
				t.Fatalf("%v: Diff = %v %d %d, want %v", g, l, n, why, want)
			}
			compares(t, g, a, b)
		}
	}
}

// P12.3: trees of digests that do not belong together: a leaf under a node that is alike is not found, and a node that differs may have nothing that does.
func TestDiffBad(t *testing.T) {
	r := rand.New(rand.NewSource(6))
	for _, g := range few() {
		digests := chance(r, len(below(g.N, g.F)))
		a := from(t, g, digests)
		compares(t, g, a, from(t, g, chance(r, len(digests))))
		for i := range digests {
			other := slices.Clone(digests)
			other[i] = of(3)
			compares(t, g, a, from(t, g, other))
		}
		for k := range 20 {
			other := slices.Clone(digests)
			for i := range other {
				if r.Intn(20) < k {
					other[i] = of(3)
				}
			}
			other[len(other)-1] = of(4)
			compares(t, g, a, from(t, g, other))
		}
	}
}

// P12.3: N or F another one; Cow and Undo do not count.
func TestDiffGeom(t *testing.T) {
	for _, n := range []int{1, 2, 3, 4, 9, 128} {
		for f := 2; f <= 4; f++ {
			g := api.Geom{N: n, F: f, Cow: 0, Undo: 1}
			a := made(t, g, content(n, 1))
			for _, other := range []int{1, 2, 3, 4, 9, 128} {
				for k := 2; k <= 4; k++ {
					if other != n || k != f {
						differs(t, a, made(t, geometry(other, k), content(other, 1)), api.ErrGeom)
					}
				}
			}
			b := made(t, api.Geom{N: n, F: f, Cow: 64, Undo: 320}, content(n, 2))
			compares(t, g, a, b)
			if l, _, why := a.Diff(b); len(l) != n || why != api.OK {
				t.Errorf("%v: Diff = %v %d", g, l, why)
			}
		}
	}
}

// P12.1: what is done to a tree is not to be seen in its copy, nor the other way round; and Diff changes neither tree.
func TestCopy(t *testing.T) {
	for _, g := range few() {
		sectors := content(g.N, 1)
		want := model(g, sectors)
		a := made(t, g, sectors)
		b := a.Copy()
		a.Set(0, sector.Fill(9))
		has(t, "the copy", b, g, want)
		changed := a.All()
		b.Set(g.N-1, sector.Fill(8))
		now := b.All()
		a.Diff(b)
		has(t, "the tree itself", a, g, changed)
		has(t, "the copy, changed", b, g, now)
		c := b.Copy()
		b.Set(0, sector.Fill(7))
		has(t, "the copy's copy", c, g, now)
	}
}

// The general rule 4: what a caller writes into a result is not in a later one.
func TestShares(t *testing.T) {
	g := geometry(5, 2)
	want := model(g, content(5, 1))
	a, b := made(t, g, content(5, 1)), made(t, g, content(5, 2))
	bad := slices.Clone(want)
	bad[5], bad[10] = of(2), of(2)
	c := from(t, g, bad)
	for range 2 {
		all := a.All()
		all[0], all[10] = "", ""
		_ = append(all, "more")
		has(t, "behind All", a, g, want)
		l, _, _ := a.Diff(b)
		if !slices.Equal(l, []int{0, 1, 2, 3, 4}) {
			t.Errorf("Diff = %v", l)
		}
		l[0] = 9
		_ = append(l[:2], 10)
		nodes := c.Bad()
		if !slices.Equal(nodes, []int{5, 8, 10}) {
			t.Errorf("Bad = %v", nodes)
		}
		nodes[0] = 9
	}
}
