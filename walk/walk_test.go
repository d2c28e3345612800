package walk

import (
	"crypto/sha256"
	"math"
	"math/rand"
	"slices"
	"strings"
	"testing"

	"pentimento/api"
	"pentimento/sector"
	"pentimento/tree"
)

// geometry is a valid one of so many data sectors and children.
func geometry(n, f int) api.Geom { return api.Geom{N: n, F: f, Cow: n % 65, Undo: 1 + n} }

// few are some of all shapes of trees: the least and the greatest, those that their levels fill, and those of which a node has one child.
func few() []api.Geom {
	var out []api.Geom
	for _, n := range []int{1, 2, 3, 4, 5, 8, 9, 16, 17, 28, 127, 128} {
		for f := 2; f <= 4; f++ {
			out = append(out, geometry(n, f))
		}
	}
	return out
}

// below returns the children of each node, of leaves none: by the definition's words, level by level.
func below(n, f int) [][]int {
	out := make([][]int, n)
	level := make([]int, n)
	for i := range level {
		level[i] = i
	}
	for len(level) > 1 {
		var next []int
		for len(level) > 0 {
			k := min(f, len(level))
			next = append(next, len(out))
			out = append(out, level[:k])
			level = level[k:]
		}
		level = next
	}
	return out
}

// height is how many levels there are above the leaves.
func height(n, f int) int {
	h := 0
	for ; n > 1; h++ {
		n = (n + f - 1) / f
	}
	return h
}

// of is a digest by the library.
func of(mark byte, parts ...string) string {
	d := sha256.Sum256([]byte(string([]byte{mark}) + strings.Join(parts, "")))
	return string(d[:])
}

// parts are the elements of a list at these places.
func parts(list []string, at []int) []string {
	var out []string
	for _, i := range at {
		out = append(out, list[i])
	}
	return out
}

// model is the digests of the tree of sectors.
func model(g api.Geom, sectors []string) []string {
	var out []string
	for i, children := range below(g.N, g.F) {
		if i < g.N {
			out = append(out, of(0, sectors[i]))
		} else {
			out = append(out, of(1, parts(out, children)...))
		}
	}
	return out
}

// awaited is one thing that a walk awaits.
type awaited struct{ kind, index int }

// order is what a walk from one tree to another one awaits, one behind the other: the nodes that differ, level by level from the root, as far as they are found, and then the leaves.
func order(g api.Geom, own, other []string) []awaited {
	children := below(g.N, g.F)
	level := []int{len(children) - 1}
	var out []awaited
	for len(level) > 0 {
		var next []int
		for _, i := range level {
			if own[i] == other[i] {
				continue
			}
			kind := Ask
			if i < g.N {
				kind = Want
			}
			out = append(out, awaited{kind, i})
			next = append(next, children[i]...)
		}
		level = next
	}
	return out
}

// content is n sectors, of which no two are alike.
func content(n int, seed byte) []string {
	var out []string
	for i := range n {
		out = append(out, strings.Repeat(string([]byte{seed, byte(i), 0xff, byte(i) ^ seed}), 16))
	}
	return out
}

// changed is sectors of which those at these places are others.
func changed(sectors []string, at ...int) []string {
	out := slices.Clone(sectors)
	for _, i := range at {
		out[i] = sector.Fill(byte(i + 1))
	}
	return out
}

// changes are some lists of leaves: none, each alone, all, and some by chance.
func changes(r *rand.Rand, n int) [][]int {
	out := [][]int{nil, r.Perm(n), {0, n - 1}}
	for i := range n {
		out = append(out, []int{i})
	}
	for range 8 {
		out = append(out, r.Perm(n)[:r.Intn(n+1)])
	}
	return out
}

// made returns the tree of sectors.
func made(t *testing.T, g api.Geom, sectors []string) *tree.Tree {
	t.Helper()
	tr, why := tree.New(g, sectors...)
	if why != api.OK {
		t.Fatalf("tree.New(%v) = %d", g, why)
	}
	return tr
}

// from returns the tree with digests.
func from(t *testing.T, g api.Geom, digests []string) *tree.Tree {
	t.Helper()
	tr, why := tree.From(g, digests...)
	if why != api.OK {
		t.Fatalf("tree.From(%v) = %d", g, why)
	}
	return tr
}

// begun returns a walk.
func begun(t *testing.T, own *tree.Tree, root string) *Walk {
	t.Helper()
	w, why := New(own, root)
	if w == nil || why != api.OK {
		t.Fatalf("New = %v %d", w, why)
	}
	return w
}

// is tells if not this is awaited, by Next and by Done.
func is(t *testing.T, w *Walk, kind, index int) {
	t.Helper()
	if k, i := w.Next(); k != kind || i != index || w.Done() != (kind == None) {
		t.Fatalf("Next = %d %d, Done %t, want %d %d", k, i, w.Done(), kind, index)
	}
}

// counts tells if not so much was supplied.
func counts(t *testing.T, w *Walk, asked, told, came int) {
	t.Helper()
	if a, b, c := w.Counts(); a != asked || b != told || c != came {
		t.Fatalf("Counts = %d %d %d, want %d %d %d", a, b, c, asked, told, came)
	}
}

// nodes tells if Nodes does not return this.
func nodes(t *testing.T, what string, w *Walk, node int, digests []string, want api.Errno) {
	t.Helper()
	if why := w.Nodes(node, digests...); why != want {
		t.Fatalf("%s: Nodes(%d, %x) = %d, want %d", what, node, digests, why, want)
	}
}

// data tells if Data does not return this.
func data(t *testing.T, what string, w *Walk, i int, s string, want api.Errno) {
	t.Helper()
	if why := w.Data(i, s); why != want {
		t.Fatalf("%s: Data(%d, %q) = %d, want %d", what, i, s, why, want)
	}
}

// supplied walks to the end with all that is awaited, and tells if that is not in this order.
func supplied(t *testing.T, w *Walk, g api.Geom, sectors, digests []string, want []awaited) {
	t.Helper()
	children := below(g.N, g.F)
	asked, told, came := 0, 0, 0
	for _, at := range want {
		is(t, w, at.kind, at.index)
		counts(t, w, asked, told, came)
		if at.kind == Ask {
			list := parts(digests, children[at.index])
			nodes(t, "right", w, at.index, list, api.OK)
			asked, told = asked+1, told+len(list)
		} else {
			data(t, "right", w, at.index, sectors[at.index], api.OK)
			came++
		}
	}
	is(t, w, None, 0)
	counts(t, w, asked, told, came)
}

// P14.1, P14.2, P14.3: nil, and a walk that was not made by New.
func TestNone(t *testing.T) {
	root := of(0, "")
	for _, c := range []struct {
		w   *Walk
		why api.Errno
	}{{nil, api.ErrNil}, {&Walk{}, api.ErrState}} {
		is(t, c.w, None, 0)
		counts(t, c.w, 0, 0, 0)
		nodes(t, "none", c.w, 0, nil, c.why)
		nodes(t, "none", c.w, -1, []string{root, ""}, c.why)
		data(t, "none", c.w, 0, sector.Zero(), c.why)
		data(t, "none", c.w, -1, "", c.why)
		is(t, c.w, None, 0)
	}
}

// P14.1: a tree that is not there is told ahead of a root that is no digest. A tree that was not made has no root, so that nothing is found.
func TestNew(t *testing.T) {
	tr := made(t, geometry(3, 2), content(3, 1))
	for n := range 70 {
		root := strings.Repeat("r", n)
		if w, why := New(nil, root); w != nil || why != api.ErrNil {
			t.Errorf("New(nil, %q) = %v %d", root, w, why)
		}
		if n == 32 {
			is(t, begun(t, tr, root), Ask, 5)
			is(t, begun(t, &tree.Tree{}, root), None, 0)
		} else if w, why := New(tr, root); w != nil || why != api.ErrLength {
			t.Errorf("New(%q) = %v %d", root, w, why)
		}
	}
}

// P14.1, P14.2: the document's example: from a tree to itself nothing is awaited, and all that comes is too much.
func TestSame(t *testing.T) {
	for _, g := range few() {
		sectors := content(g.N, 2)
		digests := model(g, sectors)
		children := below(g.N, g.F)
		w := begun(t, made(t, g, sectors), digests[len(digests)-1])
		is(t, w, None, 0)
		for node := range digests {
			nodes(t, "done", w, node, parts(digests, children[node]), api.ErrState)
			data(t, "done", w, node, sectors[0], api.ErrState)
		}
		is(t, w, None, 0)
		counts(t, w, 0, 0, 0)
	}
}

// P14.1: with one sector the root is a leaf, and awaits its sector.
func TestOne(t *testing.T) {
	for f := 2; f <= 4; f++ {
		w := begun(t, made(t, geometry(1, f), content(1, 1)), of(0, sector.Zero()))
		is(t, w, Want, 0)
		nodes(t, "a leaf", w, 0, nil, api.ErrState)
		nodes(t, "a leaf", w, 0, []string{of(0, sector.Zero())}, api.ErrState)
		data(t, "one", w, 0, sector.Fill(1), api.ErrDigest)
		data(t, "one", w, 0, sector.Zero(), api.OK)
		is(t, w, None, 0)
		counts(t, w, 0, 0, 1)
		data(t, "again", w, 0, sector.Zero(), api.ErrState)
	}
}

// P14.1, P14.2, P14.3: a walk told step by step: nodes level by level, and the leaves behind all of them.
func TestFive(t *testing.T) {
	g := api.Geom{N: 5, F: 2, Undo: 1}
	sectors := content(5, 1)
	other := changed(sectors, 1, 4)
	d := model(g, other)
	w := begun(t, made(t, g, sectors), d[10])
	is(t, w, Ask, 10)
	nodes(t, "the root", w, 10, []string{d[8], d[9]}, api.OK)
	is(t, w, Ask, 8)
	nodes(t, "8", w, 8, []string{d[5], d[6]}, api.OK)
	is(t, w, Ask, 9)
	nodes(t, "9", w, 9, []string{d[7]}, api.OK)
	is(t, w, Ask, 5)
	nodes(t, "5", w, 5, []string{d[0], d[1]}, api.OK)
	is(t, w, Ask, 7)
	nodes(t, "7", w, 7, []string{d[4]}, api.OK)
	counts(t, w, 5, 8, 0)
	is(t, w, Want, 1)
	data(t, "1", w, 1, other[1], api.OK)
	is(t, w, Want, 4)
	data(t, "4", w, 4, other[4], api.OK)
	is(t, w, None, 0)
	counts(t, w, 5, 8, 2)
}

// P14.3: Nodes' errors, in their order; none changes the walk.
func TestNodesErrors(t *testing.T) {
	for _, g := range few() {
		if g.N == 1 {
			continue
		}
		children := below(g.N, g.F)
		other := content(g.N, 4)
		d := model(g, other)
		w := begun(t, made(t, g, content(g.N, 3)), d[len(d)-1])
		for node := len(d) - 1; node >= g.N; {
			list := parts(d, children[node])
			for _, i := range []int{node + 1, node - 1, 0, g.N - 1, -1, -node, math.MaxInt, math.MinInt} {
				nodes(t, "another node", w, i, list, api.ErrState)
				nodes(t, "another node", w, i, nil, api.ErrState)
			}
			for i := range d {
				data(t, "no sector", w, i, other[0], api.ErrState)
			}
			nodes(t, "none", w, node, nil, api.ErrLong)
			nodes(t, "too few", w, node, list[1:], api.ErrLong)
			nodes(t, "too many", w, node, append(slices.Clone(list), list[0]), api.ErrLong)
			nodes(t, "too many", w, node, append(slices.Clone(list), ""), api.ErrLong)
			for i := range list {
				for _, s := range []string{"", list[i][:31], list[i] + "\x00", of(2, list[i])} {
					l := slices.Clone(list)
					l[i] = s
					nodes(t, "another digest", w, node, l, api.ErrDigest)
				}
			}
			if len(list) > 1 {
				l := slices.Clone(list)
				slices.Reverse(l)
				nodes(t, "another order", w, node, l, api.ErrDigest)
			}
			is(t, w, Ask, node)
			nodes(t, "right", w, node, list, api.OK)
			nodes(t, "again", w, node, list, api.ErrState)
			kind, next := w.Next()
			if kind != Ask {
				break
			}
			node = next
		}
		asked, told, came := w.Counts()
		if asked != len(d)-g.N || told != len(d)-1 || came != 0 {
			t.Errorf("%v: Counts = %d %d %d", g, asked, told, came)
		}
	}
}

// P14.3: Data's errors, in their order; none changes the walk.
func TestDataErrors(t *testing.T) {
	g := geometry(9, 3)
	sectors := content(9, 3)
	other := changed(sectors, 2, 3, 7)
	d := model(g, other)
	children := below(9, 3)
	w := begun(t, made(t, g, sectors), d[12])
	for _, at := range order(g, model(g, sectors), d) {
		if at.kind == Ask {
			nodes(t, "right", w, at.index, parts(d, children[at.index]), api.OK)
			continue
		}
		for _, i := range []int{at.index + 1, at.index - 1, -1, 9, 12, 0, math.MaxInt, math.MinInt} {
			data(t, "another sector", w, i, other[at.index], api.ErrState)
			data(t, "another sector", w, i, "", api.ErrState)
		}
		for node := range d {
			nodes(t, "no node", w, node, parts(d, children[node]), api.ErrState)
		}
		for _, n := range []int{0, 1, 32, 63, 65, 128} {
			data(t, "no sector", w, at.index, strings.Repeat("x", n), api.ErrLength)
		}
		data(t, "as it was", w, at.index, sectors[at.index], api.ErrDigest)
		data(t, "another one", w, at.index, sector.Zero(), api.ErrDigest)
		is(t, w, Want, at.index)
		data(t, "right", w, at.index, other[at.index], api.OK)
		data(t, "again", w, at.index, other[at.index], api.ErrState)
	}
	counts(t, w, 4, 12, 3)
}

// P14.3, P14.4: a walk that is supplied from a tree of sectors ends. It asks for what differs, level by level, and then for just the leaves that Diff returns, in that order, with no more digests than the bound.
func TestWalks(t *testing.T) {
	r := rand.New(rand.NewSource(14))
	for _, g := range few() {
		sectors := content(g.N, 5)
		own := made(t, g, sectors)
		digests := model(g, sectors)
		for _, at := range changes(r, g.N) {
			other := changed(sectors, at...)
			d := model(g, other)
			want := order(g, digests, d)
			w := begun(t, own, d[len(d)-1])
			supplied(t, w, g, other, d, want)
			var wants []int
			for _, a := range want {
				if a.kind == Want {
					wants = append(wants, a.index)
				}
			}
			leaves, _, why := own.Diff(made(t, g, other))
			if !slices.Equal(wants, leaves) || why != api.OK {
				t.Errorf("%v: the walk wants %v, Diff is %v %d", g, wants, leaves, why)
			}
			if _, told, came := w.Counts(); told > g.F*height(g.N, g.F)*len(leaves) || came != len(leaves) {
				t.Errorf("%v: %d digests and %d sectors for %v", g, told, came, leaves)
			}
		}
		if !slices.Equal(own.All(), digests) {
			t.Errorf("%v: a walk has changed its tree", g)
		}
	}
}

// P14.3: the children's digests in one's own tree count, and not whether they belong to their nodes: of a bad tree a node may differ and none of its children, or a leaf that has the same sector.
func TestBad(t *testing.T) {
	r := rand.New(rand.NewSource(41))
	for _, g := range few() {
		other := content(g.N, 6)
		d := model(g, other)
		for range 20 {
			own := slices.Clone(d)
			for range r.Intn(len(d) + 1) {
				i := r.Intn(len(d))
				own[i] = of(3, own[i])
			}
			supplied(t, begun(t, from(t, g, own), d[len(d)-1]), g, other, d, order(g, own, d))
		}
	}
	g := geometry(4, 2)
	d := model(g, content(4, 6))
	own := slices.Clone(d)
	own[6] = of(3, "")
	w := begun(t, from(t, g, own), d[6])
	nodes(t, "the root", w, 6, []string{d[4], d[5]}, api.OK)
	is(t, w, None, 0)
	counts(t, w, 1, 2, 0)
}

// P14.3: a root of which there is no tree of sectors: its children are taken as they are told, and the walk does not end as long as theirs are not.
func TestOther(t *testing.T) {
	g := geometry(4, 2)
	own := made(t, g, content(4, 1))
	a, b := of(3, "a"), of(3, "b")
	w := begun(t, own, of(1, a, b))
	nodes(t, "the root", w, 6, []string{a, b}, api.OK)
	nodes(t, "no such children", w, 4, []string{a, b}, api.ErrDigest)
	nodes(t, "not yet", w, 5, []string{a, b}, api.ErrState)
	is(t, w, Ask, 4)
	counts(t, w, 1, 2, 0)
}

// P14.3: a list of as many parts as there are children, whose bytes are the right ones, but otherwise divided: by the words of the promise it is taken, and what it tells of a child is what nothing can be supplied for.
func TestDivided(t *testing.T) {
	g := geometry(4, 2)
	d := model(g, content(4, 2))
	w := begun(t, made(t, g, content(4, 1)), d[6])
	nodes(t, "divided", w, 6, []string{d[4] + d[5][:1], d[5][1:]}, api.OK)
	is(t, w, Ask, 4)
	nodes(t, "right", w, 4, []string{d[0], d[1]}, api.ErrDigest)
	is(t, w, Ask, 4)
}

// P14.1, P14.3: what is handed in is not changed, nor kept: neither the tree, whose sectors may be set while the walk goes on, nor a list of digests.
func TestKept(t *testing.T) {
	for _, g := range few() {
		sectors, other := content(g.N, 1), content(g.N, 2)
		own := made(t, g, sectors)
		digests, d := model(g, sectors), model(g, other)
		children := below(g.N, g.F)
		w := begun(t, own, d[len(d)-1])
		for i := range g.N {
			own.Set(i, other[i])
		}
		for _, at := range order(g, digests, d) {
			is(t, w, at.kind, at.index)
			if at.kind == Want {
				data(t, "right", w, at.index, other[at.index], api.OK)
				continue
			}
			list := parts(d, children[at.index])
			was := slices.Clone(list)
			nodes(t, "right", w, at.index, list, api.OK)
			if !slices.Equal(list, was) {
				t.Errorf("%v: Nodes has changed its list", g)
			}
			clear(list)
		}
		is(t, w, None, 0)
	}
}

// P14.2: Next and Done change nothing; two walks from one tree go on apart.
func TestApart(t *testing.T) {
	g := geometry(8, 2)
	sectors := content(8, 1)
	own := made(t, g, sectors)
	children := below(8, 2)
	first, second := changed(sectors, 0, 5), changed(sectors, 5, 7)
	a, b := model(g, first), model(g, second)
	v, w := begun(t, own, a[14]), begun(t, own, b[14])
	for _, at := range order(g, model(g, sectors), a) {
		is(t, v, at.kind, at.index)
		is(t, v, at.kind, at.index)
		is(t, w, Ask, 14)
		if at.kind == Ask {
			nodes(t, "right", v, at.index, parts(a, children[at.index]), api.OK)
		} else {
			data(t, "right", v, at.index, first[at.index], api.OK)
		}
	}
	counts(t, w, 0, 0, 0)
	supplied(t, w, g, second, b, order(g, model(g, sectors), b))
	is(t, v, None, 0)
}
