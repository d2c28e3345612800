package geom

import (
	"math"
	"slices"
	"testing"

	"pentimento/api"
)

// of is a geometry of n data sectors and fan f.
func of(n, f int) api.Geom { return api.Geom{N: n, F: f, Cow: 5, Undo: 7} }

// allTrees are geometries with all trees that there are.
func allTrees() []api.Geom {
	var out []api.Geom
	for f := 2; f <= 4; f++ {
		for n := 1; n <= 128; n++ {
			out = append(out, of(n, f))
		}
	}
	return out
}

// wrong are geometries that are not valid, by one of their numbers.
func wrong() []api.Geom {
	out := []api.Geom{{}}
	for _, n := range []int{0, -1, 129, 1 << 32, 1<<32 + 4, math.MaxInt, math.MinInt} {
		out = append(out, api.Geom{N: n, F: 2, Cow: 1, Undo: 1})
	}
	for _, f := range []int{0, 1, -2, 5, 1<<32 + 2, math.MaxInt, math.MinInt} {
		out = append(out, api.Geom{N: 4, F: f, Cow: 1, Undo: 1})
	}
	for _, cow := range []int{-1, 65, 1 << 32, math.MaxInt, math.MinInt} {
		out = append(out, api.Geom{N: 4, F: 2, Cow: cow, Undo: 1})
	}
	for _, undo := range []int{0, -1, 321, 1<<32 + 1, math.MaxInt, math.MinInt} {
		out = append(out, api.Geom{N: 4, F: 2, Cow: 1, Undo: undo})
	}
	return out
}

// outside are numbers of nothing, where there are n.
func outside(n int) []int {
	return []int{-1, -2, n, n + 1, 1 << 32, -1 << 32, math.MaxInt, math.MaxInt - 1, math.MinInt, math.MinInt + 1}
}

// family is the tree of n leaves and fan f, told by grouping nodes again and again: each node's children and parent, and each level's size.
type family struct {
	children [][]int
	parents  []int
	levels   []int
}

func grow(n, f int) family {
	var t family
	level := make([]int, n)
	for i := range level {
		level[i] = i
		t.children, t.parents = append(t.children, nil), append(t.parents, -1)
	}
	t.levels = []int{n}
	for len(level) > 1 {
		var above []int
		for len(level) > 0 {
			group := level[:min(f, len(level))]
			level = level[len(group):]
			for _, child := range group {
				t.parents[child] = len(t.parents)
			}
			above = append(above, len(t.parents))
			t.children, t.parents = append(t.children, group), append(t.parents, -1)
		}
		level = above
		t.levels = append(t.levels, len(level))
	}
	return t
}

// P7.1: Right, at the ends of what each number may be, and beyond.
func TestRight(t *testing.T) {
	for _, n := range []int{1, 2, 64, 127, 128} {
		for _, f := range []int{2, 3, 4} {
			for _, cow := range []int{0, 1, 63, 64} {
				for _, undo := range []int{1, 2, 319, 320} {
					if g := (api.Geom{N: n, F: f, Cow: cow, Undo: undo}); !Right(g) {
						t.Errorf("Right(%v) = false", g)
					}
				}
			}
		}
	}
	for _, g := range wrong() {
		if Right(g) {
			t.Errorf("Right(%v) = true", g)
		}
	}
}

// P7.1: trees that are known: the document's example, one sector alone, full trees, and one node too many for these.
func TestLevels(t *testing.T) {
	for _, c := range []struct {
		n, f int
		want []int
	}{
		{5, 2, []int{5, 3, 2, 1}},
		{1, 2, []int{1}},
		{1, 4, []int{1}},
		{2, 2, []int{2, 1}},
		{2, 4, []int{2, 1}},
		{4, 4, []int{4, 1}},
		{5, 4, []int{5, 2, 1}},
		{8, 2, []int{8, 4, 2, 1}},
		{9, 2, []int{9, 5, 3, 2, 1}},
		{27, 3, []int{27, 9, 3, 1}},
		{28, 3, []int{28, 10, 4, 2, 1}},
		{128, 2, []int{128, 64, 32, 16, 8, 4, 2, 1}},
		{128, 3, []int{128, 43, 15, 5, 2, 1}},
		{128, 4, []int{128, 32, 8, 2, 1}},
	} {
		g := of(c.n, c.f)
		total := 0
		for _, n := range c.want {
			total += n
		}
		if l := Levels(g); !slices.Equal(l, c.want) {
			t.Errorf("Levels of %d by %d = %v, want %v", c.n, c.f, l, c.want)
		}
		if Nodes(g) != total || Height(g) != len(c.want)-1 || Root(g) != total-1 {
			t.Errorf("%d by %d: nodes %d, height %d, root %d", c.n, c.f, Nodes(g), Height(g), Root(g))
		}
	}
}

// P7.1: Levels, Nodes, Height and Root of all trees.
func TestAllLevels(t *testing.T) {
	for _, g := range allTrees() {
		want := grow(g.N, g.F)
		if l := Levels(g); !slices.Equal(l, want.levels) {
			t.Errorf("Levels(%v) = %v, want %v", g, l, want.levels)
		}
		if n := len(want.parents); Nodes(g) != n || Height(g) != len(want.levels)-1 || Root(g) != n-1 {
			t.Errorf("%v: nodes %d, height %d, root %d", g, Nodes(g), Height(g), Root(g))
		}
	}
}

// P7.2: the document's example, whose last nodes have fewer children.
func TestExample(t *testing.T) {
	g := of(5, 2)
	parents := []int{5, 5, 6, 6, 7, 8, 8, 9, 10, 10, -1}
	children := [][]int{5: {0, 1}, 6: {2, 3}, 7: {4}, 8: {5, 6}, 9: {7}, 10: {8, 9}}
	for node := range 11 {
		if p := Parent(g, node); p != parents[node] {
			t.Errorf("Parent(%d) = %d, want %d", node, p, parents[node])
		}
		if l := Children(g, node); !slices.Equal(l, children[node]) {
			t.Errorf("Children(%d) = %v, want %v", node, l, children[node])
		}
	}
	for leaf, want := range [][]int{{0, 5, 8, 10}, {1, 5, 8, 10}, {2, 6, 8, 10}, {3, 6, 8, 10}, {4, 7, 9, 10}} {
		if l := Path(g, leaf); !slices.Equal(l, want) {
			t.Errorf("Path(%d) = %v, want %v", leaf, l, want)
		}
	}
	one := of(1, 3)
	if Parent(one, 0) != -1 || len(Children(one, 0)) != 0 || !slices.Equal(Path(one, 0), []int{0}) {
		t.Errorf("a leaf that is the root: %d %v %v", Parent(one, 0), Children(one, 0), Path(one, 0))
	}
}

// P7.2: Parent, Children and Path of all nodes of all trees.
func TestAllNodes(t *testing.T) {
	for _, g := range allTrees() {
		want := grow(g.N, g.F)
		for node := range want.parents {
			if p := Parent(g, node); p != want.parents[node] {
				t.Errorf("Parent(%v, %d) = %d, want %d", g, node, p, want.parents[node])
			}
			if l := Children(g, node); !slices.Equal(l, want.children[node]) {
				t.Errorf("Children(%v, %d) = %v, want %v", g, node, l, want.children[node])
			}
		}
		for leaf := range g.N {
			var path []int
			for node := leaf; node != -1; node = want.parents[node] {
				path = append(path, node)
			}
			if l := Path(g, leaf); !slices.Equal(l, path) {
				t.Errorf("Path(%v, %d) = %v, want %v", g, leaf, l, path)
			}
		}
	}
}

// P7.2: numbers that are not those of a node; Path takes leaves alone.
func TestNoNode(t *testing.T) {
	for _, g := range []api.Geom{of(1, 2), of(5, 2), of(9, 3), of(128, 2), of(128, 4)} {
		for _, node := range outside(Nodes(g)) {
			if Parent(g, node) != -1 || len(Children(g, node)) != 0 || len(Path(g, node)) != 0 {
				t.Errorf("%v: node %d: %d %v %v", g, node, Parent(g, node), Children(g, node), Path(g, node))
			}
		}
		for _, leaf := range append(outside(g.N), Root(g)) {
			if l := Path(g, leaf); len(l) != 0 && leaf != 0 {
				t.Errorf("Path(%v, %d) = %v", g, leaf, l)
			}
		}
	}
}

// P7.3: the sectors of a disk, in the definition's order.
func TestLocations(t *testing.T) {
	g := api.Geom{N: 5, F: 2, Cow: 3, Undo: 4}
	// Five data sectors behind the first six, eleven nodes behind these, then the area.
	if Data(g, 0) != 6 || Data(g, 4) != 10 || Node(g, 0) != 11 || Node(g, 10) != 21 {
		t.Errorf("data %d %d, nodes %d %d", Data(g, 0), Data(g, 4), Node(g, 0), Node(g, 10))
	}
	if Area(g, api.Source, 0) != 22 || Area(g, api.Source, 5) != 27 || Size(g, api.Source) != 28 {
		t.Errorf("source: %d %d, size %d", Area(g, api.Source, 0), Area(g, api.Source, 5), Size(g, api.Source))
	}
	if Area(g, api.Target, 0) != 22 || Area(g, api.Target, 7) != 29 || Size(g, api.Target) != 30 {
		t.Errorf("target: %d %d, size %d", Area(g, api.Target, 0), Area(g, api.Target, 7), Size(g, api.Target))
	}
	least := api.Geom{N: 1, F: 4, Cow: 0, Undo: 1}
	if Size(least, api.Source) != 8 || Size(least, api.Target) != 10 || Area(least, api.Source, 0) != -1 || Area(least, api.Target, 0) != 8 {
		t.Errorf("the least: %d %d %d %d", Size(least, api.Source), Size(least, api.Target), Area(least, api.Source, 0), Area(least, api.Target, 0))
	}
	most := api.Geom{N: 128, F: 2, Cow: 64, Undo: 320}
	if Size(most, api.Source) != 517 || Size(most, api.Target) != 1029 || Size(most, api.Target) > api.MaxDisk {
		t.Errorf("the greatest: %d %d", Size(most, api.Source), Size(most, api.Target))
	}
}

// P7.3: sectors, nodes and sides that there are not.
func TestNoLocation(t *testing.T) {
	for _, g := range []api.Geom{of(1, 2), of(5, 2), of(128, 2), {N: 1, F: 2, Cow: 0, Undo: 1}, {N: 128, F: 4, Cow: 64, Undo: 320}} {
		for _, i := range outside(g.N) {
			if Data(g, i) != -1 {
				t.Errorf("Data(%v, %d) = %d", g, i, Data(g, i))
			}
		}
		for _, node := range outside(Nodes(g)) {
			if Node(g, node) != -1 {
				t.Errorf("Node(%v, %d) = %d", g, node, Node(g, node))
			}
		}
		for _, k := range outside(2 * g.Cow) {
			if Area(g, api.Source, k) != -1 {
				t.Errorf("Area(%v, 0, %d) = %d", g, k, Area(g, api.Source, k))
			}
		}
		for _, k := range outside(2 * g.Undo) {
			if Area(g, api.Target, k) != -1 {
				t.Errorf("Area(%v, 1, %d) = %d", g, k, Area(g, api.Target, k))
			}
		}
		for _, side := range outside(2) {
			if Size(g, side) != 0 || Area(g, side, 0) != -1 || Area(g, side, 1) != -1 {
				t.Errorf("side %d: %d %d", side, Size(g, side), Area(g, side, 0))
			}
		}
	}
}

// P7.1, P7.2, P7.3: of a geometry that is not valid there is nothing.
func TestWrong(t *testing.T) {
	for _, g := range wrong() {
		if len(Levels(g)) != 0 || Nodes(g) != 0 || Height(g) != 0 || Root(g) != 0 {
			t.Errorf("%v: %v %d %d %d", g, Levels(g), Nodes(g), Height(g), Root(g))
		}
		for _, i := range append(outside(3), 0, 1, 2, 5) {
			if Parent(g, i) != -1 || len(Children(g, i)) != 0 || len(Path(g, i)) != 0 {
				t.Errorf("%v: node %d: %d %v %v", g, i, Parent(g, i), Children(g, i), Path(g, i))
			}
			if Data(g, i) != -1 || Node(g, i) != -1 || Area(g, api.Source, i) != -1 || Area(g, api.Target, i) != -1 || Area(g, i, 0) != -1 || Size(g, i) != 0 {
				t.Errorf("%v: locations of %d: %d %d %d %d", g, i, Data(g, i), Node(g, i), Area(g, api.Source, i), Size(g, i))
			}
		}
	}
}

// P7.4: the locations of a side are all different, and with the first six they are all there are from 0 to its size minus 1.
func TestAllLocations(t *testing.T) {
	for _, tree := range allTrees() {
		for _, room := range [][2]int{{0, 1}, {1, 2}, {64, 320}} {
			g := api.Geom{N: tree.N, F: tree.F, Cow: room[0], Undo: room[1]}
			for side, entries := range room {
				l := []int{0, 1, 2, 3, 4, 5}
				for i := range g.N {
					l = append(l, Data(g, i))
				}
				for node := range Nodes(g) {
					l = append(l, Node(g, node))
				}
				for k := range 2 * entries {
					l = append(l, Area(g, side, k))
				}
				if len(l) != Size(g, side) {
					t.Fatalf("%v: %d locations of side %d, size %d", g, len(l), side, Size(g, side))
				}
				slices.Sort(l)
				for at := range l {
					if l[at] != at {
						t.Fatalf("%v: side %d has nothing at %d, or more than one thing", g, side, at)
					}
				}
			}
		}
	}
}

// P7.5: a node is the parent of its children, and each node other than the root is the child of its parent.
func TestFamilies(t *testing.T) {
	for _, g := range allTrees() {
		children := 0
		for node := range Nodes(g) {
			for _, child := range Children(g, node) {
				children++
				if Parent(g, child) != node {
					t.Errorf("%v: the parent of %d, a child of %d, is %d", g, child, node, Parent(g, child))
				}
			}
			p := Parent(g, node)
			if (p == -1) != (node == Root(g)) {
				t.Errorf("%v: the parent of %d is %d", g, node, p)
			}
			if p != -1 && !slices.Contains(Children(g, p), node) {
				t.Errorf("%v: %d is no child of %d, its parent", g, node, p)
			}
		}
		if children != Nodes(g)-1 {
			t.Errorf("%v: %d children", g, children)
		}
	}
}

// The general rule 4: what a caller writes into a result is not in a later one.
func TestShares(t *testing.T) {
	g := of(5, 2)
	for range 2 {
		levels, children, path := Levels(g), Children(g, 5), Path(g, 4)
		if !slices.Equal(levels, []int{5, 3, 2, 1}) || !slices.Equal(children, []int{0, 1}) || !slices.Equal(path, []int{4, 7, 9, 10}) {
			t.Errorf("%v %v %v", levels, children, path)
		}
		for _, l := range [][]int{levels, children, path} {
			for i := range l {
				l[i] = -7
			}
			_ = append(l, -8)
		}
	}
}
