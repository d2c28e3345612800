package cost

import (
	"math"
	"math/rand"
	"slices"
	"strings"
	"testing"

	"pentimento/api"
	"pentimento/digest"
	"pentimento/frame"
	"pentimento/pair"
	"pentimento/sector"
)

// contents are n sectors, each with bytes of its own.
func contents(n int, c byte) []string {
	var out []string
	for i := range n {
		out = append(out, strings.Repeat(string([]byte{c, byte(i), 0xff, c ^ 0x5a}), 16))
	}
	return out
}

// digests are n digests.
func digests(n int) []string { return slices.Repeat([]string{digest.Leaf(sector.Zero())}, n) }

// levels are how many nodes a tree has on each level, the leaves first.
func levels(n, f int) []int {
	l := []int{n}
	for n > 1 {
		n = (n + f - 1) / f
		l = append(l, n)
	}
	return l
}

// nodesOf is how many nodes a tree has.
func nodesOf(n, f int) int {
	count := 0
	for _, m := range levels(n, f) {
		count += m
	}
	return count
}

// frames of all kinds, and how long their encodings are.
func frames() map[int]api.Frame {
	one := digests(1)[0]
	return map[int]api.Frame{
		66:  {Kind: 1, Session: 1 << 16, Epoch: 9, Seq: 3, Vol: 7, N: 128, F: 4, Data: one},
		28:  {Kind: 2, Session: 5, Code: 255},
		29:  {Kind: 3, Session: math.MaxUint64, Epoch: math.MaxUint64, Seq: math.MaxUint32, Index: 65535},
		94:  {Kind: 4, Index: 4, List: digests(2)},
		30:  {Kind: 4},
		62:  {Kind: 4, List: digests(1)},
		158: {Kind: 4, List: digests(4)},
		93:  {Kind: 6, Index: 127, Data: sector.Fill(255)},
		27:  {Kind: 7, Epoch: 1},
	}
}

// counted is a cost with so many frames of a kind.
func counted(kind, count, digests, sectors, bytes int) Cost {
	c := Cost{Digests: digests, Sectors: sectors, Bytes: bytes}
	c.Frames[kind] = count
	return c
}

// is tells if a cost is not another one.
func is(t *testing.T, what string, c, want Cost) {
	t.Helper()
	if c != want {
		t.Errorf("%s = %+v, want %+v", what, c, want)
	}
}

// P28.1: Of one frame of each kind, and of none.
func TestOf(t *testing.T) {
	is(t, "Of()", Of(), Cost{})
	is(t, "Of(nil)", Of(nil...), Cost{})
	l := frames()
	is(t, "Hello", Of(l[66]), counted(1, 1, 1, 0, 66))
	is(t, "Refuse", Of(l[28]), counted(2, 1, 0, 0, 28))
	is(t, "Ask", Of(l[29]), counted(3, 1, 0, 0, 29))
	is(t, "Nodes", Of(l[94]), counted(4, 1, 2, 0, 94))
	is(t, "Nodes of none", Of(l[30]), counted(4, 1, 0, 0, 30))
	is(t, "Nodes of one", Of(l[62]), counted(4, 1, 1, 0, 62))
	is(t, "Nodes of four", Of(l[158]), counted(4, 1, 4, 0, 158))
	is(t, "Want", Of(api.Frame{Kind: 5, Index: 3}), counted(5, 1, 0, 0, 29))
	is(t, "Data", Of(l[93]), counted(6, 1, 0, 1, 93))
	is(t, "Ack", Of(l[27]), counted(7, 1, 0, 0, 27))
}

// P28.1: frames of no kind are at 0, and have no bytes, whatever else they have.
func TestOfNoKind(t *testing.T) {
	for _, kind := range []int{0, -1, 8, 9, 15, 256, 257, 260, 263, math.MaxInt, math.MinInt} {
		is(t, "Of no kind", Of(api.Frame{Kind: kind}), counted(0, 1, 0, 0, 0))
		is(t, "Of no kind", Of(api.Frame{Kind: kind, Session: 1, Epoch: 1, N: 4, F: 2, Data: sector.Zero(), List: digests(3)}), counted(0, 1, 0, 0, 0))
	}
	is(t, "Of the zero frame, twice", Of(api.Frame{}, api.Frame{}), counted(0, 2, 0, 0, 0))
}

// P28.1: frames that can't be encoded are counted as others of their kinds, but have no bytes.
func TestOfWrong(t *testing.T) {
	one := digests(1)[0]
	for i, c := range []struct {
		f    api.Frame
		want Cost
	}{
		{api.Frame{Kind: 1}, counted(1, 1, 1, 0, 0)},
		{api.Frame{Kind: 1, Data: sector.Zero()}, counted(1, 1, 1, 0, 0)},
		{api.Frame{Kind: 1, N: 65536, Data: one}, counted(1, 1, 1, 0, 0)},
		{api.Frame{Kind: 1, F: -1, Data: one}, counted(1, 1, 1, 0, 0)},
		{api.Frame{Kind: 1, Data: one, List: digests(5)}, counted(1, 1, 1, 0, 0)},
		{api.Frame{Kind: 2, Code: 256}, counted(2, 1, 0, 0, 0)},
		{api.Frame{Kind: 3, Index: -1}, counted(3, 1, 0, 0, 0)},
		{api.Frame{Kind: 3, List: digests(2)}, counted(3, 1, 0, 0, 0)},
		{api.Frame{Kind: 4, List: digests(5)}, counted(4, 1, 5, 0, 0)},
		{api.Frame{Kind: 4, List: digests(256)}, counted(4, 1, 256, 0, 0)},
		{api.Frame{Kind: 4, List: make([]string, 512)}, counted(4, 1, 512, 0, 0)},
		{api.Frame{Kind: 4, List: []string{one, "x"}}, counted(4, 1, 2, 0, 0)},
		{api.Frame{Kind: 4, Index: 65536, List: digests(2)}, counted(4, 1, 2, 0, 0)},
		{api.Frame{Kind: 5, Index: 1 << 40}, counted(5, 1, 0, 0, 0)},
		{api.Frame{Kind: 6}, counted(6, 1, 0, 1, 0)},
		{api.Frame{Kind: 6, Data: one}, counted(6, 1, 0, 1, 0)},
		{api.Frame{Kind: 6, Index: -1, Data: sector.Zero()}, counted(6, 1, 0, 1, 0)},
		{api.Frame{Kind: 7, Index: 1}, counted(7, 1, 0, 0, 0)},
		{api.Frame{Kind: 7, Data: strings.Repeat("x", 1<<20)}, counted(7, 1, 0, 0, 0)},
	} {
		if got := Of(c.f); got != c.want {
			t.Errorf("%d: Of = %+v, want %+v", i, got, c.want)
		}
	}
}

// P28.1: Of many frames is the sum of those of each, in whatever order; the list stays as it is.
func TestOfMany(t *testing.T) {
	r := rand.New(rand.NewSource(281))
	var all []api.Frame
	for _, f := range frames() {
		all = append(all, f, api.Frame{Kind: f.Kind, Index: -1, Code: 2})
	}
	all = append(all, api.Frame{Kind: 5}, api.Frame{}, api.Frame{Kind: -3})
	for range 200 {
		var l []api.Frame
		var want Cost
		for range r.Intn(60) {
			f := all[r.Intn(len(all))]
			l = append(l, f)
			kind := f.Kind
			if kind < 1 || kind > 7 {
				kind = 0
			}
			want.Frames[kind]++
			if kind == 1 {
				want.Digests++
			}
			if kind == 4 {
				want.Digests += len(f.List)
			}
			if kind == 6 {
				want.Sectors++
			}
			if b, why := frame.Put(f); why == api.OK {
				want.Bytes += len(b)
			}
		}
		was := slices.Clone(l)
		is(t, "Of many", Of(l...), want)
		if !slices.EqualFunc(l, was, frame.Alike) {
			t.Fatal("Of changed its list")
		}
		cut := r.Intn(len(l) + 1)
		is(t, "Of two parts", Of(l[:cut]...).Plus(Of(l[cut:]...)), want)
		r.Shuffle(len(l), func(i, j int) { l[i], l[j] = l[j], l[i] })
		is(t, "Of another order", Of(l...), want)
	}
}

// P28.1: Plus, field by field; neither of the two is changed.
func TestPlus(t *testing.T) {
	a := Cost{[8]int{1, 2, 4, 8, 16, 32, 64, 128}, 256, 512, 1024}
	b := Cost{[8]int{3, 5, 7, 11, 13, 17, 19, 23}, 29, 31, 37}
	want := Cost{[8]int{4, 7, 11, 19, 29, 49, 83, 151}, 285, 543, 1061}
	is(t, "Plus", a.Plus(b), want)
	is(t, "Plus", b.Plus(a), want)
	is(t, "Plus", a.Plus(a.Plus(b)), a.Plus(a).Plus(b))
	is(t, "Plus of nothing", a.Plus(Cost{}), a)
	is(t, "nothing's Plus", Cost{}.Plus(b), b)
	if a.Frames[7] != 128 || a.Bytes != 1024 || b.Frames[0] != 3 || b.Digests != 29 {
		t.Errorf("Plus changed %+v or %+v", a, b)
	}
	// A field alone, to the field alone.
	for i := range 11 {
		is(t, "Plus of one field", field(i, 5).Plus(field(i, -7)), field(i, -2))
		is(t, "Plus of one field", field(i, math.MaxInt).Plus(field(i, math.MinInt)), field(i, -1))
	}
}

// field is a cost with one field alone.
func field(i, n int) Cost {
	var c Cost
	switch i {
	case 8:
		c.Digests = n
	case 9:
		c.Sectors = n
	case 10:
		c.Bytes = n
	default:
		c.Frames[i] = n
	}
	return c
}

// expected is what a session costs in which these leaves differ, counted by the leaves alone.
func expected(n, f int, leaves []int) Cost {
	var c Cost
	c.Frames[1], c.Frames[7] = 1, 1
	c.Digests, c.Bytes = 1, 66+27
	counts := levels(n, f)
	for level := range len(counts) {
		above := map[int]int{}
		for _, leaf := range leaves {
			above[leaf]++
		}
		if level == 0 {
			c.Frames[5], c.Frames[6], c.Sectors = len(above), len(above), len(above)
			c.Bytes += len(above) * (29 + 93)
		} else {
			c.Frames[3] += len(above)
			c.Frames[4] += len(above)
			for node := range above {
				children := min(f, counts[level-1]-node*f)
				c.Digests += children
				c.Bytes += 29 + 30 + 32*children
			}
		}
		parents := make([]int, len(leaves))
		for i := range leaves {
			parents[i] = leaves[i] / f
		}
		leaves = parents
	}
	return c
}

// changed are sectors of which some leaves are other ones.
func changed(l []string, leaves []int) []string {
	out := slices.Clone(l)
	for _, leaf := range leaves {
		out[leaf] = sector.Mix(uint64(leaf) + 1000)
	}
	return out
}

// holds tells if Least is not what it has to be where these leaves differ.
func holds(t *testing.T, g api.Geom, leaves []int) {
	t.Helper()
	was := contents(g.N, 1)
	now := changed(was, leaves)
	want := expected(g.N, g.F, leaves)
	for _, l := range [][2][]string{{was, now}, {now, was}} {
		c, why := Least(g, l[0], l[1])
		if c != want || why != api.OK {
			t.Fatalf("%+v, leaves %v: Least = %+v %d, want %+v", g, leaves, c, why, want)
		}
		// P28.3.
		if height := len(levels(g.N, g.F)) - 1; c.Digests > 1+g.F*height*c.Sectors {
			t.Fatalf("%+v, leaves %v: %d digests for %d sectors", g, leaves, c.Digests, c.Sectors)
		}
	}
	if !slices.Equal(was, contents(g.N, 1)) || !slices.Equal(now, changed(was, leaves)) {
		t.Fatal("Least changed its lists")
	}
}

// P28.2, and example 1: an image and itself.
func TestLeastSame(t *testing.T) {
	for _, g := range []api.Geom{{N: 1, F: 2, Undo: 1}, {N: 5, F: 2, Undo: 1}, {N: 16, F: 4, Cow: 64, Undo: 320}, {N: 128, F: 3, Undo: 1}} {
		l := contents(g.N, 3)
		c, why := Least(g, l, slices.Clone(l))
		if why != api.OK {
			t.Errorf("Least = %d", why)
		}
		is(t, "Least", c, Cost{Frames: [8]int{1: 1, 7: 1}, Digests: 1, Bytes: 93})
	}
}

// P28.2: cases by hand.
func TestLeastByHand(t *testing.T) {
	for _, c := range []struct {
		g      api.Geom
		leaves []int
		want   Cost
	}{
		// The leaf is the root.
		{api.Geom{N: 1, F: 3, Undo: 1}, []int{0}, Cost{[8]int{0, 1, 0, 0, 0, 1, 1, 1}, 1, 1, 66 + 29 + 93 + 27}},
		{api.Geom{N: 2, F: 2, Undo: 1}, []int{1}, Cost{[8]int{0, 1, 0, 1, 1, 1, 1, 1}, 3, 1, 66 + 29 + 94 + 29 + 93 + 27}},
		{api.Geom{N: 4, F: 4, Undo: 1}, []int{0, 1, 2, 3}, Cost{[8]int{0, 1, 0, 1, 1, 4, 4, 1}, 5, 4, 66 + 29 + 158 + 4*(29+93) + 27}},
		// The nodes above leaf 4 have one child each, but for the root: 5 3 2 1.
		{api.Geom{N: 5, F: 2, Undo: 1}, []int{4}, Cost{[8]int{0, 1, 0, 3, 3, 1, 1, 1}, 1 + 2 + 1 + 1, 1, 66 + 3*29 + 94 + 2*62 + 29 + 93 + 27}},
		{api.Geom{N: 5, F: 2, Undo: 1}, []int{0, 3}, Cost{[8]int{0, 1, 0, 4, 4, 2, 2, 1}, 1 + 2 + 2 + 2 + 2, 2, 66 + 4*29 + 4*94 + 2*(29+93) + 27}},
		{api.Geom{N: 5, F: 2, Undo: 1}, []int{0, 1, 2, 3, 4}, Cost{[8]int{0, 1, 0, 6, 6, 5, 5, 1}, 1 + 10, 5, 66 + 6*29 + 4*94 + 2*62 + 5*(29+93) + 27}},
	} {
		was := contents(c.g.N, 1)
		got, why := Least(c.g, was, changed(was, c.leaves))
		if why != api.OK {
			t.Errorf("Least = %d", why)
		}
		is(t, "Least", got, c.want)
	}
}

// P28.2, P28.3: all sets of leaves of small trees.
func TestLeastSmall(t *testing.T) {
	for n := 1; n <= 7; n++ {
		for f := 2; f <= 4; f++ {
			for set := range 1 << n {
				var leaves []int
				for leaf := range n {
					if set>>leaf&1 == 1 {
						leaves = append(leaves, leaf)
					}
				}
				holds(t, api.Geom{N: n, F: f, Undo: 1}, leaves)
			}
		}
	}
}

// P28.2, P28.3: all shapes, with each number of leaves from few to all; other room changes nothing.
func TestLeastShapes(t *testing.T) {
	r := rand.New(rand.NewSource(282))
	for n := 1; n <= api.MaxData; n++ {
		for f := 2; f <= 4; f++ {
			all := r.Perm(n)
			for _, count := range []int{0, 1, 1 + r.Intn(n), n} {
				holds(t, api.Geom{N: n, F: f, Cow: r.Intn(65), Undo: 1 + r.Intn(320)}, all[:count])
			}
		}
	}
}

// P28.2: the errors are those of the tree of what was, and then of what is now, alone.
func TestLeastErrors(t *testing.T) {
	g := api.Geom{N: 3, F: 2, Undo: 1}
	ok, few, many, bad := contents(3, 1), contents(2, 1), contents(4, 1), []string{sector.Zero(), "x", sector.Zero()}
	for i, c := range []struct {
		g        api.Geom
		was, now []string
		want     api.Errno
	}{
		{api.Geom{}, ok, ok, api.ErrGeom},
		{api.Geom{}, nil, nil, api.ErrGeom},
		{api.Geom{N: 3, F: 1, Undo: 1}, ok, ok, api.ErrGeom},
		{api.Geom{N: 3, F: 5, Undo: 1}, bad, few, api.ErrGeom},
		{api.Geom{N: 3, F: 2}, ok, ok, api.ErrGeom},
		{api.Geom{N: 3, F: 2, Undo: 321}, ok, ok, api.ErrGeom},
		{api.Geom{N: 3, F: 2, Cow: -1, Undo: 1}, ok, ok, api.ErrGeom},
		{api.Geom{N: 3, F: 2, Cow: 65, Undo: 1}, ok, ok, api.ErrGeom},
		{api.Geom{N: math.MaxInt, F: math.MinInt, Cow: math.MaxInt, Undo: math.MinInt}, ok, ok, api.ErrGeom},
		{api.Geom{N: 129, F: 2, Undo: 1}, contents(129, 1), contents(129, 1), api.ErrGeom},
		{g, nil, ok, api.ErrLong},
		{g, few, ok, api.ErrLong},
		{g, many, ok, api.ErrLong},
		{g, bad, ok, api.ErrLength},
		{g, ok, nil, api.ErrLong},
		{g, ok, few, api.ErrLong},
		{g, ok, many, api.ErrLong},
		{g, ok, bad, api.ErrLength},
		{g, ok, []string{"", "", ""}, api.ErrLength},
		{g, bad, few, api.ErrLength},
		{g, few, bad, api.ErrLong},
		{g, bad, bad, api.ErrLength},
		{g, bad[:2], ok, api.ErrLong},
		{g, ok, append(slices.Clone(bad), "y"), api.ErrLong},
		{g, ok, ok, api.OK},
	} {
		cost, why := Least(c.g, c.was, c.now)
		if why != c.want {
			t.Errorf("%d: Least = %d, want %d", i, why, c.want)
		}
		if why != api.OK {
			is(t, "Least with an error", cost, Cost{})
		}
	}
}

// session is a pair's session, from its offer on, in which nothing goes wrong: all its frames, and how many bytes were on their way.
func session(t *testing.T, p *pair.Pair, between func()) ([]api.Frame, int) {
	t.Helper()
	if a := p.Do(api.Step{Kind: api.StConnect}); a.Why != api.OK {
		t.Fatalf("connect = %d", a.Why)
	}
	var l []api.Frame
	bytes := 0
	for p.Net().Len() > 0 {
		packet, _ := p.Net().At(0)
		f, why := frame.Get([]byte(packet.B))
		if why != api.OK || p.Net().Len() != 1 {
			t.Fatalf("%d packets, the first: %d", p.Net().Len(), why)
		}
		l = append(l, f)
		bytes += len(packet.B)
		if a := p.Do(api.Step{Kind: api.StDeliver}); a.Why != api.OK {
			t.Fatalf("deliver = %+v", a)
		}
		between()
	}
	if s := p.Source(); s.Acked != s.Epoch || p.Target().Epoch != s.Epoch {
		t.Fatalf("Source = %+v, Target = %+v", s, p.Target())
	}
	return l, bytes
}

// all are the sectors that a kind of step answers.
func all(t *testing.T, p *pair.Pair, kind int) []string {
	t.Helper()
	var out []string
	for i := range p.Config().G.N {
		a := p.Do(api.Step{Kind: kind, At: i})
		if a.Why != api.OK {
			t.Fatalf("sector %d: %d", i, a.Why)
		}
		out = append(out, a.Data)
	}
	return out
}

// costs has a pair seal and connect, and tells if the session does not cost the least.
func costs(t *testing.T, p *pair.Pair, between func()) Cost {
	t.Helper()
	p.Do(api.Step{Kind: api.StBoot, Node: api.Source})
	p.Do(api.Step{Kind: api.StBoot, Node: api.Target})
	p.Do(api.Step{Kind: api.StDrop})
	if a := p.Do(api.Step{Kind: api.StSeal}); a.Why != api.OK {
		t.Fatalf("seal = %d", a.Why)
	}
	was, now := all(t, p, api.StView), all(t, p, api.StRead)
	want, why := Least(p.Config().G, was, now)
	if why != api.OK {
		t.Fatalf("Least = %d", why)
	}
	l, bytes := session(t, p, between)
	if c := Of(l...); c != want || c.Bytes != bytes {
		t.Fatalf("the session costs %+v, and has %d bytes, want %+v", c, bytes, want)
	}
	differ := 0
	for i := range was {
		if was[i] != now[i] {
			differ++
		}
	}
	if want.Sectors != differ || !slices.Equal(all(t, p, api.StView), now) {
		t.Fatalf("%d sectors came, %d differ", want.Sectors, differ)
	}
	return want
}

// random is a step by chance, mostly one that does something.
func random(r *rand.Rand, p *pair.Pair) api.Step {
	s := api.Step{Kind: 7, Node: r.Intn(2), At: r.Intn(p.Config().G.N), Data: sector.Mix(r.Uint64() % 4)}
	switch k := r.Intn(100); {
	case k < 8:
		s.Kind = 2
	case k < 40:
		s.Kind = 1 + r.Intn(15)
		for (s.Kind == 12 || s.Kind == 4) && r.Intn(4) > 0 {
			s.Kind = 5 + r.Intn(2)
		}
	}
	for node := range 2 {
		if !p.Up(node) && r.Intn(4) == 0 {
			s.Kind, s.Node = 13, node
		}
	}
	if r.Intn(3) == 0 {
		s.N = r.Intn(p.Net().Len() + 1)
	}
	for range r.Intn(8) {
		s.Keep = append(s.Keep, r.Intn(2) == 0)
	}
	if r.Intn(10) == 0 {
		s.Stop = 1 + r.Intn(20)
	}
	return s
}

// P28.4: after any steps, a session in which nothing goes wrong costs the least.
func TestSession(t *testing.T) {
	r := rand.New(rand.NewSource(284))
	least, most := 0, 0
	for _, g := range []api.Geom{{N: 1, F: 2}, {N: 2, F: 2, Cow: 1}, {N: 5, F: 2, Cow: 2}, {N: 9, F: 3, Cow: 5}, {N: 30, F: 4, Cow: 6}, {N: 70, F: 2, Cow: 64}} {
		g.Undo = g.N + nodesOf(g.N, g.F)
		c := api.Config{Vol: 7, G: g, Last: 100000}
		p, why := pair.New(c, contents(g.N, 1), contents(g.N, 2))
		if why != api.OK {
			t.Fatalf("New = %d", why)
		}
		for range 60 {
			for range r.Intn(60) {
				p.Do(random(r, p))
			}
			switch costs(t, p, func() {}).Sectors {
			case 0:
				least++
			case g.N:
				most++
			}
		}
	}
	if least == 0 || most == 0 {
		t.Errorf("%d sessions with nothing, %d with all", least, most)
	}
}

// P28.4: what is written while the session goes on costs nothing, as it is not of the snapshot.
func TestSessionWrites(t *testing.T) {
	g := api.Geom{N: 12, F: 3, Cow: 12, Undo: 40}
	p, why := pair.New(api.Config{Vol: 1, G: g, Last: 9}, contents(12, 1), nil)
	if why != api.OK {
		t.Fatalf("New = %d", why)
	}
	for _, data := range []string{sector.Fill(1), sector.Fill(2)} {
		p.Do(api.Step{Kind: api.StSeal})
		was := all(t, p, api.StView)
		want, _ := Least(g, was, all(t, p, api.StRead))
		at := 0
		l, _ := session(t, p, func() {
			p.Do(api.Step{Kind: api.StWrite, At: at % 12, Data: data})
			at++
		})
		is(t, "the session", Of(l...), want)
		if want.Sectors != 12 {
			t.Errorf("%d sectors differ", want.Sectors)
		}
	}
}

// P28.4: an earlier session that was not finished spares a later one nothing.
func TestSessionBroken(t *testing.T) {
	g := api.Geom{N: 5, F: 2, Cow: 5, Undo: 16}
	for broken := range 24 {
		p, why := pair.New(api.Config{Vol: 1, G: g, Last: 9}, contents(5, 1), contents(5, 2))
		if why != api.OK {
			t.Fatalf("New = %d", why)
		}
		p.Do(api.Step{Kind: api.StSeal})
		p.Do(api.Step{Kind: api.StConnect})
		for range broken {
			p.Do(api.Step{Kind: api.StDeliver})
		}
		if c := costs(t, p, func() {}); p.Target().Epoch != 2 || c.Sectors != 5 && broken < 23 || c.Sectors != 0 && broken >= 23 {
			t.Errorf("%d frames of an earlier session: %+v", broken, c)
		}
	}
}
