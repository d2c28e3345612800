package fair

import (
	"math"
	"math/rand"
	"slices"
	"strings"
	"testing"

	"pentimento/api"
	"pentimento/disk"
	"pentimento/frame"
	"pentimento/net"
	"pentimento/pair"
	"pentimento/sector"
)

// nodesOf counts the nodes of a tree, level by level.
func nodesOf(n, f int) int {
	count := n
	for n > 1 {
		n = (n + f - 1) / f
		count += n
	}
	return count
}

// shapes are all valid geometries, with just enough room to undo everything, or as much as there may be.
func shapes() []api.Geom {
	var out []api.Geom
	for n := 1; n <= api.MaxData; n++ {
		for f := api.MinFan; f <= api.MaxFan; f++ {
			out = append(out, api.Geom{N: n, F: f, Undo: min(n+nodesOf(n, f), api.MaxUndo)})
		}
	}
	return out
}

// usual is a volume of a few sectors, with a tree of 5, 3, 2 and 1 nodes, all of which can be undone.
func usual() api.Config {
	return api.Config{Vol: 5, G: api.Geom{N: 5, F: 2, Cow: 2, Undo: 16}, Last: 100}
}

// contents are n sectors, each with bytes of its own.
func contents(n int, c byte) []string {
	var out []string
	for i := range n {
		out = append(out, strings.Repeat(string([]byte{c, byte(i), 0xff, c ^ 0x5a}), 16))
	}
	return out
}

// The steps.
func write(at int, data string) api.Step      { return api.Step{Kind: 2, At: at, Data: data} }
func seal() api.Step                          { return api.Step{Kind: 4} }
func connect() api.Step                       { return api.Step{Kind: 5} }
func deliver() api.Step                       { return api.Step{Kind: 7} }
func twice(n int) api.Step                    { return api.Step{Kind: 9, N: n} }
func cut(n, at int) api.Step                  { return api.Step{Kind: 10, N: n, At: at} }
func drop() api.Step                          { return api.Step{Kind: 11} }
func crash(node int, keep ...bool) api.Step   { return api.Step{Kind: 12, Node: node, Keep: keep} }
func boot(node int) api.Step                  { return api.Step{Kind: 13, Node: node} }
func stopped(s api.Step, stop int) api.Step   { s.Stop = stop; return s }
func kept(s api.Step, keep ...bool) api.Step  { s.Keep = keep; return s }
func times(count int, s api.Step) []api.Step  { return slices.Repeat([]api.Step{s}, count) }
func rows(parts ...[]api.Step) (l []api.Step) { return slices.Concat(parts...) }

// made is a pair that is new.
func made(t *testing.T, c api.Config, source, target []string) *pair.Pair {
	t.Helper()
	p, why := pair.New(c, source, target)
	if why != api.OK {
		t.Fatalf("New = %d", why)
	}
	return p
}

// twins are two pairs with the same past: a call on one is held against steps with the other.
type twins struct {
	*testing.T
	p, q *pair.Pair
}

// twinned are two pairs of sectors that all differ, after the same steps.
func twinned(t *testing.T, c api.Config, l ...api.Step) *twins {
	t.Helper()
	return with(t, c, contents(c.G.N, 1), contents(c.G.N, 2), l...)
}

// with are two pairs of these sectors, after the same steps.
func with(t *testing.T, c api.Config, source, target []string, l ...api.Step) *twins {
	t.Helper()
	w := &twins{t, made(t, c, source, target), made(t, c, source, target)}
	w.do(l...)
	return w
}

// do performs steps with both.
func (w *twins) do(l ...api.Step) {
	for _, s := range l {
		w.p.Do(s)
		w.q.Do(s)
	}
}

// hand does the same to the disks and the nets of both.
func (w *twins) hand(do func(d [2]*disk.Disk, n *net.Net)) {
	for _, p := range []*pair.Pair{w.p, w.q} {
		do([2]*disk.Disk{p.Disk(0), p.Disk(1)}, p.Net())
	}
}

// settle is the second one's Settle, step by step.
func (w *twins) settle(most int) int {
	count := 0
	for w.q.Net().Len() > 0 && count < most {
		w.q.Do(deliver())
		count++
	}
	return count
}

// run is the second one's Run, step by step.
func (w *twins) run() (int, api.Errno) {
	var l []api.Step
	if !w.q.Up(0) {
		l = append(l, boot(0))
	}
	if !w.q.Up(1) {
		l = append(l, boot(1))
	}
	l = append(l, drop(), seal(), connect())
	var epoch uint64
	for i, s := range l {
		a := w.q.Do(s)
		if a.Why != api.OK {
			return i + 1, a.Why
		}
		if s.Kind == seal().Kind {
			epoch = uint64(a.N)
		}
	}
	g := w.q.Config().G
	count := len(l) + w.settle(7+2*nodesOf(g.N, g.F)-len(l))
	if w.q.Target().Epoch == epoch && w.q.Source().Acked == epoch {
		return count, api.OK
	}
	return count, api.ErrNone
}

// settles calls Settle, and tells if it is not what the steps are.
func (w *twins) settles(most int) int {
	w.Helper()
	n, want := Settle(w.p, most), w.settle(most)
	if n != want {
		w.Fatalf("Settle(%d) = %d, want %d", most, n, want)
	}
	w.alike()
	return n
}

// runs calls Run, and tells if it is not what the steps are.
func (w *twins) runs() (int, api.Errno) {
	w.Helper()
	n, why := Run(w.p)
	if count, want := w.run(); n != count || why != want {
		w.Fatalf("Run = %d %d, want %d %d", n, why, count, want)
	}
	w.alike()
	return n, why
}

// gives calls Run, and tells if it is not this.
func (w *twins) gives(count int, want api.Errno) {
	w.Helper()
	if n, why := w.runs(); n != count || why != want {
		w.Fatalf("Run = %d %d, want %d %d", n, why, count, want)
	}
}

// alike tells if the pairs differ.
func (w *twins) alike() {
	w.Helper()
	a, b := w.p, w.q
	for node := range 2 {
		d, o := a.Disk(node), b.Disk(node)
		if a.Up(node) != b.Up(node) || d.Down() != o.Down() || d.Done() != o.Done() || !slices.Equal(d.Waits(), o.Waits()) {
			w.Fatalf("node %d: up %v, down %v, %d done, waits %v; want %v %v %d %v", node, a.Up(node), d.Down(), d.Done(), d.Waits(), b.Up(node), o.Down(), o.Done(), o.Waits())
		}
		for at := range o.Len() {
			x, _ := d.Kept(at)
			if y, _ := o.Kept(at); x != y {
				w.Fatalf("node %d: sector %d is %q, want %q", node, at, x, y)
			}
		}
	}
	if x, y := a.Sender().State(), b.Sender().State(); x != y {
		w.Fatalf("the sender's State = %+v, want %+v", x, y)
	}
	if x, y := a.Taker().State(), b.Taker().State(); x != y {
		w.Fatalf("the taker's State = %+v, want %+v", x, y)
	}
	w.nets()
}

// nets tells if the nets differ.
func (w *twins) nets() {
	w.Helper()
	a, b := w.p.Net(), w.q.Net()
	x, y, z := a.Counts()
	if sent, came, lost := b.Counts(); x != sent || y != came || z != lost || a.Len() != b.Len() {
		w.Fatalf("%d packets, Counts = %d %d %d, want %d, %d %d %d", a.Len(), x, y, z, b.Len(), sent, came, lost)
	}
	for i := range b.Len() {
		s, _ := a.At(i)
		if o, _ := b.At(i); s != o {
			w.Fatalf("packet %d is %+v, want %+v", i, s, o)
		}
	}
}

// reads are the sectors that the source reads.
func reads(t *testing.T, p *pair.Pair) []string { return all(t, p, api.StRead) }

// shows are the sectors that the target shows.
func shows(t *testing.T, p *pair.Pair) []string { return all(t, p, api.StView) }

// all are the sectors that a kind of step answers.
func all(t *testing.T, p *pair.Pair, kind int) []string {
	t.Helper()
	var out []string
	for i := range p.Config().G.N {
		a := p.Do(api.Step{Kind: kind, At: i})
		if a.Why != api.OK {
			t.Fatalf("sector %d: %d", i, a.Why)
		}
		out = append(out, a.Data)
	}
	return out
}

// P27.1: Most of all shapes, whatever room there is, and of what is no geometry.
func TestMost(t *testing.T) {
	for _, g := range shapes() {
		want := 7 + 2*nodesOf(g.N, g.F)
		for _, o := range []api.Geom{g, {N: g.N, F: g.F, Undo: 1}, {N: g.N, F: g.F, Cow: 64, Undo: 320}} {
			if n := Most(o); n != want {
				t.Errorf("Most(%+v) = %d, want %d", o, n, want)
			}
		}
	}
	for n, g := range map[int]api.Geom{9: {N: 1, F: 2, Undo: 1}, 13: {N: 2, F: 2, Undo: 1}, 21: {N: 4, F: 2, Undo: 1}, 29: {N: 5, F: 2, Undo: 1}, 517: {N: 128, F: 2, Undo: 1}} {
		if m := Most(g); m != n {
			t.Errorf("Most(%+v) = %d, want %d", g, m, n)
		}
	}
	for _, g := range []api.Geom{{}, {N: 0, F: 2, Undo: 1}, {N: -1, F: 2, Undo: 1}, {N: 129, F: 2, Undo: 1}, {N: 4, F: 1, Undo: 1}, {N: 4, F: 5, Undo: 1}, {N: 4, F: 0, Undo: 1}, {N: 4, F: 2, Undo: 0}, {N: 4, F: 2, Undo: 321}, {N: 4, F: 2, Cow: -1, Undo: 1}, {N: 4, F: 2, Cow: 65, Undo: 1}, {N: math.MaxInt, F: math.MaxInt, Cow: math.MaxInt, Undo: math.MaxInt}, {N: math.MinInt, F: math.MinInt, Cow: math.MinInt, Undo: math.MinInt}} {
		if n := Most(g); n != 0 {
			t.Errorf("Most(%+v) = %d, want 0", g, n)
		}
	}
}

// P27.1: Settle of no pair, and of one that New has not made.
func TestSettleNone(t *testing.T) {
	for _, most := range []int{math.MinInt, -1, 0, 1, 100, math.MaxInt} {
		if n := Settle(nil, most); n != 0 {
			t.Errorf("Settle(nil, %d) = %d", most, n)
		}
		if n := Settle(&pair.Pair{}, most); n != 0 {
			t.Errorf("Settle of a zero pair = %d", n)
		}
		// Without packets there is nothing to do.
		if n := twinned(t, usual(), seal()).settles(most); n != 0 {
			t.Errorf("Settle of an empty net = %d", n)
		}
	}
}

// P27.1: Settle performs at most so many steps, and stops when there are no packets, at each bound.
func TestSettleBounds(t *testing.T) {
	whole := twinned(t, usual(), seal(), connect()).settles(math.MaxInt)
	// A Hello, 6 questions, 5 sectors, their answers, and an Ack.
	if whole != 24 {
		t.Fatalf("Settle = %d", whole)
	}
	for _, most := range []int{math.MinInt, -2, -1} {
		w := twinned(t, usual(), seal(), connect())
		if n := w.settles(most); n != 0 || w.p.Net().Len() != 1 {
			t.Errorf("Settle(%d) = %d", most, n)
		}
	}
	for most := range whole + 5 {
		w := twinned(t, usual(), seal(), connect())
		if n := w.settles(most); n != min(most, whole) {
			t.Errorf("Settle(%d) = %d", most, n)
		}
		if had := w.p.Source().Acked == 1; had != (most >= whole) {
			t.Errorf("Settle(%d): acknowledged %v", most, had)
		}
		// What is left comes by another one.
		if n := w.settles(math.MaxInt); n != max(whole-most, 0) {
			t.Errorf("Settle behind Settle(%d) = %d", most, n)
		}
	}
}

// P27.1: Settle goes on when what comes has an error: packets that were cut, are there twice, or come to a node that is down.
func TestSettleErrors(t *testing.T) {
	begun := []api.Step{seal(), connect()}
	cases := map[string][]api.Step{
		"cut":           rows(begun, []api.Step{twice(0), cut(0, 30), twice(0)}),
		"empty":         rows(begun, []api.Step{twice(0), twice(0), cut(0, 0), cut(1, 65)}),
		"twice":         rows(begun, times(7, twice(0))),
		"full":          rows(begun, times(80, twice(0))),
		"in the middle": rows(begun, times(9, deliver()), times(4, twice(0)), []api.Step{cut(1, 5)}),
		"target down":   rows(begun, times(3, twice(0)), []api.Step{crash(1)}),
		"source down":   rows(begun, []api.Step{deliver()}, times(3, twice(0)), []api.Step{crash(0)}),
		"both down":     rows(begun, []api.Step{twice(0), deliver(), twice(1), crash(0), crash(1)}),
		"given up":      {seal(), connect(), write(0, sector.Fill(1)), write(1, sector.Fill(1)), write(2, sector.Fill(1))},
		"two sessions":  rows(begun, times(5, deliver()), times(2, twice(0)), []api.Step{write(1, sector.Fill(3)), seal(), connect(), twice(3)}),
		"boot":          rows(begun, times(12, deliver()), []api.Step{crash(1, true, true), boot(1), twice(0)}),
	}
	for name, l := range cases {
		for _, most := range []int{1, 2, 3, 4, 5, 12, math.MaxInt} {
			w := twinned(t, usual(), l...)
			before := w.p.Net().Len()
			n := w.settles(most)
			if n < min(most, before) {
				t.Errorf("%s: Settle(%d) = %d of %d packets", name, most, n, before)
			}
			if most == math.MaxInt && w.p.Net().Len() != 0 {
				t.Errorf("%s: %d packets are left", name, w.p.Net().Len())
			}
		}
	}
}

// P27.1: Settle goes on when a node goes down under it.
func TestSettleFuse(t *testing.T) {
	for node := range 2 {
		for fuse := range 30 {
			w := twinned(t, usual(), seal(), connect(), twice(0), twice(0))
			w.hand(func(d [2]*disk.Disk, _ *net.Net) { d[node].Fuse(fuse) })
			w.settles(math.MaxInt)
			if w.p.Net().Len() != 0 {
				t.Errorf("%d packets are left", w.p.Net().Len())
			}
		}
	}
}

// Example 1, and P27.2: equal sectors take 5 steps, and one more for each node that is down.
func TestExample(t *testing.T) {
	for _, c := range []api.Config{usual(), {Vol: 1, G: api.Geom{N: 1, F: 2, Undo: 1}, Last: 9}, {Vol: 1, G: api.Geom{N: 128, F: 3, Undo: 1}, Last: 9}} {
		data := contents(c.G.N, 1)
		with(t, c, data, data).gives(5, api.OK)
		with(t, c, data, data, crash(0)).gives(6, api.OK)
		with(t, c, data, data, crash(1)).gives(6, api.OK)
		with(t, c, data, data, crash(0), crash(1)).gives(7, api.OK)
		with(t, c, nil, nil).gives(5, api.OK)
	}
}

// P27.2: what differs takes two steps more for each node; what was on its way is lost first; a step of a Run has no Stop.
func TestRun(t *testing.T) {
	w := twinned(t, usual())
	w.gives(5+2*11, api.OK)
	if s := w.p.Source(); s.Epoch != 1 || s.Acked != 1 || w.p.Target().Epoch != 1 {
		t.Errorf("Source = %+v", s)
	}
	w.gives(5, api.OK)
	w.do(write(4, sector.Fill(9)))
	w.gives(5+2*4, api.OK)
	// An epoch that was sealed is followed by another one.
	w.do(write(4, sector.Fill(8)), seal(), write(0, sector.Fill(8)), connect(), deliver(), deliver(), twice(0))
	w.gives(5+2*7, api.OK)
	if s := w.p.Source(); s.Epoch != 5 || s.Acked != 5 || w.p.Target().Epoch != 5 {
		t.Errorf("Source = %+v", s)
	}
	if !slices.Equal(shows(t, w.p), reads(t, w.p)) {
		t.Error("the target does not show what the source reads")
	}
	if _, _, lost := w.p.Net().Counts(); lost != 2 {
		t.Errorf("%d packets were lost", lost)
	}
}

// P27.2: the first error ends it, and its step is one of those performed; nothing behind it is.
func TestRunErrors(t *testing.T) {
	if n, why := Run(nil); n != 0 || why != api.ErrNil {
		t.Errorf("Run(nil) = %d %d", n, why)
	}
	if n, why := Run(&pair.Pair{}); n != 1 || why != api.ErrNil {
		t.Errorf("Run of a zero pair = %d %d", n, why)
	}
	full := []api.Step{seal(), connect(), twice(0)}
	// The last epoch is sealed already: what was on its way is lost all the same, and the nodes are up.
	last := usual()
	last.Last = 1
	for want, l := range map[int][]api.Step{2: full, 3: append(slices.Clone(full), crash(1)), 4: append(slices.Clone(full), crash(0), crash(1))} {
		w := twinned(t, last, l...)
		w.gives(want, api.ErrEpoch)
		if w.p.Net().Len() != 0 || !w.p.Up(0) || !w.p.Up(1) || w.p.Source().Acked != 0 {
			t.Errorf("%d steps: %d packets, Source = %+v", want, w.p.Net().Len(), w.p.Source())
		}
	}
	// A disk that was spoiled has no volume. What was on its way stays then.
	for _, c := range []struct {
		bad   int
		downs []int
		want  int
	}{{0, []int{0}, 1}, {0, []int{0, 1}, 1}, {1, []int{1}, 1}, {1, []int{0, 1}, 2}} {
		w := twinned(t, usual(), full...)
		w.hand(func(d [2]*disk.Disk, _ *net.Net) {
			d[c.bad].Write(0, sector.Zero())
			d[c.bad].Flush()
		})
		for _, node := range c.downs {
			w.do(crash(node))
		}
		w.gives(c.want, api.ErrSum)
		if w.p.Net().Len() != 2 || w.p.Up(c.bad) || w.p.Source().Epoch > 1 {
			t.Errorf("%+v: %d packets, Source = %+v", c, w.p.Net().Len(), w.p.Source())
		}
	}
}

// P27.2: when a sender can have no further session, the offer has an error.
func TestRunSessions(t *testing.T) {
	w := twinned(t, usual(), seal())
	for range 65535 {
		w.do(connect())
	}
	w.gives(3, api.ErrFull)
	if s := w.p.Source(); s.Epoch != 2 || s.Open != 2 || w.p.Target().Epoch != 0 || w.p.Net().Len() != 0 {
		t.Errorf("Source = %+v", s)
	}
	// One that is new can.
	w.do(crash(0))
	w.gives(6+2*11, api.OK)
}

// P27.2: where not everything can be undone, the target does not have the epoch; what can, it gets.
func TestRunTight(t *testing.T) {
	for undo := 1; undo <= 17; undo++ {
		for differ := range 6 {
			c := usual()
			c.G.Undo = undo
			data := contents(5, 1)
			w := with(t, c, append(contents(differ, 2), data[differ:]...), data)
			_, why := w.runs()
			// With the nodes that differ: 4 of one leaf, 5 of two, and so on.
			need := []int{0, 1 + 4, 2 + 5, 3 + 7, 4 + 8, 5 + 11}[differ]
			if (why == api.OK) != (need <= undo) || why != api.OK && why != api.ErrNone {
				t.Errorf("undo %d, %d differ: Run = %d", undo, differ, why)
			}
			if why == api.ErrNone && (w.p.Target().Epoch != 0 || w.p.Source().Acked != 0 || w.p.Source().Epoch != 1) {
				t.Errorf("undo %d, %d differ: Target = %+v", undo, differ, w.p.Target())
			}
		}
	}
}

// P27.2: a node that goes down by another hand ends it where a step has an error for that; behind the offer the target has not got the epoch.
func TestRunFuse(t *testing.T) {
	found := map[api.Errno]int{}
	for node := range 2 {
		for fuse := range 60 {
			w := twinned(t, usual(), write(3, sector.Fill(7)))
			w.hand(func(d [2]*disk.Disk, _ *net.Net) { d[node].Fuse(fuse) })
			n, why := w.runs()
			found[why]++
			switch {
			case w.p.Up(node) != (why == api.OK), why == api.ErrDown && (node != 0 || n != 2):
				t.Errorf("node %d, fuse %d: Run = %d %d", node, fuse, n, why)
			}
			// Nothing is left of that.
			w.hand(func(d [2]*disk.Disk, _ *net.Net) { d[node].Fuse(-1) })
			if _, why := w.runs(); why != api.OK {
				t.Errorf("node %d, fuse %d: Run behind it = %d", node, fuse, why)
			}
		}
	}
	if len(found) != 3 || found[api.OK] == 0 || found[api.ErrDown] == 0 || found[api.ErrNone] == 0 {
		t.Errorf("Run = %v", found)
	}
	// A node whose disk another hand brought down is up, till its next step.
	w := twinned(t, usual())
	w.hand(func(d [2]*disk.Disk, _ *net.Net) { d[0].Crash() })
	w.gives(2, api.ErrDown)
	w.hand(func(d [2]*disk.Disk, _ *net.Net) { d[1].Crash() })
	w.gives(5, api.ErrNone)
	w.gives(6+2*11, api.OK)
}

// P27.2: what other hands have put on its way is lost too.
func TestRunPackets(t *testing.T) {
	w := twinned(t, usual(), seal())
	for _, kind := range []int{api.FrAck, api.FrAsk, api.FrWant} {
		b, why := frame.Put(api.Frame{Kind: kind, Session: 1<<16 + 1, Epoch: 2})
		if why != api.OK {
			t.Fatalf("Put = %d", why)
		}
		w.hand(func(_ [2]*disk.Disk, n *net.Net) { n.Send(0, b) })
	}
	w.gives(5+2*11, api.OK)
}

// P27.1, P27.2, P27.3: when both nodes are down and everything differs, Run takes as many steps as Most says, for all shapes, with just as much room as that needs.
func TestMostReached(t *testing.T) {
	for _, g := range shapes() {
		if g.Undo < g.N+nodesOf(g.N, g.F) {
			continue
		}
		c := api.Config{Vol: 2, G: g, Last: 1}
		p := made(t, c, contents(g.N, 1), contents(g.N, 2))
		p.Do(crash(0))
		p.Do(crash(1))
		if n, why := Run(p); n != Most(g) || why != api.OK {
			t.Errorf("%+v: Run = %d %d, want %d", g, n, why, Most(g))
		}
		if !slices.Equal(shows(t, p), contents(g.N, 1)) {
			t.Errorf("%+v: the target does not show the source's sectors", g)
		}
	}
}

// random is a step by chance, mostly one that does something.
func random(r *rand.Rand, p *pair.Pair) api.Step {
	s := api.Step{Kind: 7, Node: r.Intn(2), At: r.Intn(p.Config().G.N), Data: sector.Mix(r.Uint64() % 50)}
	switch k := r.Intn(100); {
	case k < 15:
		s.Kind = 2
	case k < 50:
		s.Kind = 1 + r.Intn(15)
		for (s.Kind == 12 || s.Kind == 4) && r.Intn(4) > 0 {
			s.Kind = 5 + r.Intn(2)
		}
	}
	for node := range 2 {
		if !p.Up(node) && r.Intn(4) == 0 {
			s.Kind, s.Node = 13, node
		}
	}
	if s.Kind == 10 {
		s.At = r.Intn(120)
	}
	if r.Intn(3) == 0 {
		s.N = r.Intn(p.Net().Len() + 1)
	}
	for range r.Intn(8) {
		s.Keep = append(s.Keep, r.Intn(2) == 0)
	}
	if r.Intn(8) == 0 {
		s.Stop = 1 + r.Intn(20)
	}
	return s
}

// roomy are volumes in which just everything can be undone, with more or less room for snapshots.
func roomy() []api.Config {
	var out []api.Config
	for _, g := range []api.Geom{{N: 1, F: 2}, {N: 2, F: 2, Cow: 1}, {N: 4, F: 2, Cow: 2}, {N: 5, F: 3, Cow: 5}, {N: 9, F: 3, Cow: 0}, {N: 17, F: 4, Cow: 6}, {N: 40, F: 2, Cow: 64}} {
		g.Undo = g.N + nodesOf(g.N, g.F)
		out = append(out, api.Config{Vol: 7, G: g, Last: 100000})
	}
	return out
}

// P27.3: after any steps Run returns OK, within Most, and the target shows the source's sectors; another one then has nothing to transfer. P27.2: it is what the steps are.
func TestAfterAny(t *testing.T) {
	r := rand.New(rand.NewSource(273))
	for _, c := range roomy() {
		for range 8 {
			w := twinned(t, c)
			for range 6 {
				for range r.Intn(120) {
					w.do(random(r, w.p))
				}
				if n, why := w.runs(); n > Most(c.G) || why != api.OK {
					t.Fatalf("%+v: Run = %d %d, at most %d", c, n, why, Most(c.G))
				}
				if !slices.Equal(shows(t, w.p), reads(t, w.p)) {
					t.Fatalf("%+v: the target does not show the source's sectors", c)
				}
				if r.Intn(3) == 0 {
					w.gives(5, api.OK)
				}
			}
		}
	}
}

// P27.3: when a node stops at each write or flush of a session, and once more while it comes up, Run returns OK.
func TestAfterStops(t *testing.T) {
	c := usual()
	story := rows([]api.Step{write(0, sector.Fill(1)), seal(), write(0, sector.Fill(2)), write(4, sector.Fill(3)), connect()}, times(24, deliver()), []api.Step{write(1, sector.Fill(4)), seal()})
	for at, s := range story {
		for stop := 1; ; stop++ {
			w := twinned(t, c, story[:at]...)
			w.do(kept(stopped(s, stop), stop%2 == 0, true))
			if w.p.Up(0) && w.p.Up(1) {
				break
			}
			for node := range 2 {
				w.do(kept(stopped(boot(node), 1+stop%5), true, stop%3 == 0))
			}
			if n, why := w.runs(); n > Most(c.G) || why != api.OK {
				t.Fatalf("step %d, stop %d: Run = %d %d", at, stop, n, why)
			}
			if !slices.Equal(shows(t, w.p), reads(t, w.p)) {
				t.Fatalf("step %d, stop %d: the target does not show the source's sectors", at, stop)
			}
		}
	}
}

// P27.2, P27.3: without room for everything, Run is what the steps are all the same, within Most, and has the epoch or nothing.
func TestAfterAnyTight(t *testing.T) {
	r := rand.New(rand.NewSource(272))
	none := 0
	for _, undo := range []int{1, 4, 7, 10} {
		w := twinned(t, api.Config{Vol: 7, G: api.Geom{N: 4, F: 2, Cow: 1, Undo: undo}, Last: 100000})
		for range 60 {
			for range r.Intn(60) {
				w.do(random(r, w.p))
			}
			n, why := w.runs()
			if n > 21 || why != api.OK && why != api.ErrNone {
				t.Fatalf("undo %d: Run = %d %d", undo, n, why)
			}
			if why == api.ErrNone {
				none++
			} else if !slices.Equal(shows(t, w.p), reads(t, w.p)) {
				t.Fatalf("undo %d: the target does not show the source's sectors", undo)
			}
		}
	}
	if none == 0 {
		t.Error("there was always room")
	}
}
