package pair

import (
	"slices"
	"testing"

	"pentimento/api"
	"pentimento/disk"
	"pentimento/frame"
	"pentimento/geom"
	"pentimento/mirror"
	"pentimento/net"
	"pentimento/origin"
	"pentimento/scrub"
	"pentimento/send"
	"pentimento/take"
)

// This file has the pair once more, row by row of the chapter's table, of the same parts: what the package does is held against it.

// model is both nodes, and a net, of its own.
type model struct {
	c api.Config
	n *net.Net
	d [2]*disk.Disk
	// Volumes of nodes that are up, and their parts of a session.
	from *origin.Volume
	to   *mirror.Volume
	s    *send.Sender
	k    *take.Taker
}

// modelled is the model of a pair that is new.
func modelled(t *testing.T, c api.Config, source, target []string) *model {
	t.Helper()
	m := &model{c: c, n: net.New(), d: [2]*disk.Disk{made(t, geom.Size(c.G, 0)), made(t, geom.Size(c.G, 1))}}
	if a, b := origin.Format(m.d[0], c, source...), mirror.Format(m.d[1], c, target...); a != api.OK || b != api.OK {
		t.Fatalf("Format = %d %d", a, b)
	}
	if a, b := m.rise(0), m.rise(1); a != api.OK || b != api.OK {
		t.Fatalf("Open = %d %d", a, b)
	}
	return m
}

func (m *model) up(node int) bool { return node == 0 && m.from != nil || node == 1 && m.to != nil }

// rise opens the volume of a node.
func (m *model) rise(node int) (why api.Errno) {
	if node == 0 {
		if m.from, why = origin.Open(m.d[0]); why == api.OK {
			m.s = send.New(m.from)
		}
	} else if m.to, why = mirror.Open(m.d[1]); why == api.OK {
		m.k = take.New(m.to)
	}
	return why
}

// fall has a node go down.
func (m *model) fall(node int, keep []bool) {
	m.d[node].Crash(keep...)
	if node == 0 {
		m.from, m.s = nil, nil
	} else {
		m.to, m.k = nil, nil
	}
}

// do performs a step.
func (m *model) do(s api.Step) api.Answer {
	node := s.Node
	switch s.Kind {
	case 1, 2, 3, 4, 5:
		node = 0
	case 14:
		node = 1
	case 6, 12, 13, 15:
		if node < 0 || node > 1 {
			return api.Answer{Why: api.ErrArg}
		}
	case 7:
		q, why := m.n.At(s.N)
		if why != api.OK {
			return api.Answer{Why: why}
		}
		node = q.To
		if !m.up(node) {
			m.n.Lose(s.N)
		}
	case 8:
		return api.Answer{Why: m.n.Lose(s.N)}
	case 9:
		return api.Answer{Why: m.n.Twice(s.N)}
	case 10:
		return api.Answer{Why: m.n.Cut(s.N, s.At)}
	case 11:
		m.n.Drop()
		return api.Answer{}
	default:
		return api.Answer{Why: api.ErrArg}
	}
	if s.Kind == 13 {
		return m.boot(s)
	}
	if !m.up(node) {
		return api.Answer{Why: api.ErrDown}
	}
	if s.Kind == 12 {
		m.fall(node, s.Keep)
		return api.Answer{}
	}
	return m.inside(node, s)
}

// boot is the step that brings a node up.
func (m *model) boot(s api.Step) api.Answer {
	d := m.d[s.Node]
	if m.up(s.Node) {
		if d.Down() {
			m.fall(s.Node, s.Keep)
		} else {
			d.Fuse(-1)
		}
		return api.Answer{Why: api.ErrUp}
	}
	d.Up()
	if s.Stop > 0 {
		d.Fuse(s.Stop - 1)
	}
	if why := m.rise(s.Node); why != api.OK {
		m.fall(s.Node, s.Keep)
		return api.Answer{Why: why}
	}
	d.Fuse(-1)
	if s.Node == 0 {
		return api.Answer{N: int64(m.from.State().Boot)}
	}
	return api.Answer{N: int64(m.to.State().Boot)}
}

// inside is a step of a node that is up.
func (m *model) inside(node int, s api.Step) api.Answer {
	d := m.d[node]
	if s.Stop > 0 {
		d.Fuse(s.Stop - 1)
	}
	a, frames := m.row(node, s)
	if d.Down() {
		m.fall(node, s.Keep)
		return api.Answer{Why: api.ErrDown}
	}
	d.Fuse(-1)
	for _, f := range frames {
		b, why := frame.Put(f)
		if why != api.OK {
			panic(why)
		}
		m.n.Send(1-node, b)
	}
	return a
}

// row is what a node does.
func (m *model) row(node int, s api.Step) (a api.Answer, frames []api.Frame) {
	switch s.Kind {
	case 1:
		a.Data, a.Why = m.from.Read(s.At)
	case 2:
		a.Why = m.from.Write(s.At, s.Data)
	case 3:
		a.Why = m.from.Flush()
	case 4:
		a.Why = api.ErrEpoch
		if next := m.from.State().Epoch + 1; next <= m.c.Last {
			if _, a.Why = m.from.Seal(); a.Why == api.OK {
				a.N = int64(next)
			}
		}
	case 5:
		f, why := m.s.Connect()
		if a.Why = why; why == api.OK {
			a.N = int64(f.Session)
			frames = append(frames, f)
		}
	case 6:
		if node == 0 {
			frames = m.s.Tick()
		} else {
			frames = m.k.Tick()
		}
		a.N = int64(len(frames))
	case 7:
		q, _ := m.n.Take(s.N)
		var f api.Frame
		if f, a.Why = frame.Get([]byte(q.B)); a.Why != api.OK {
			break
		}
		a.N = int64(q.B[0])
		if node == 0 {
			frames, a.Why = m.s.Take(f)
		} else {
			frames, a.Why = m.k.Take(f)
		}
	case 14:
		a.Data, a.Why = m.to.Read(s.At)
	case 15:
		var l []int
		if node == 0 {
			l, a.Why = scrub.Find(m.d[0], m.c.G, m.from.State().Dirty...)
		} else if a.Why = api.ErrState; m.to.State().Try == 0 {
			l, a.Why = scrub.Find(m.d[1], m.c.G)
		}
		a.N, a.List = int64(len(l)), l
	}
	return a, frames
}

// agree tells if a pair is not as the model.
func (m *model) agree(t *testing.T, what string, p *Pair) {
	t.Helper()
	for node := range 2 {
		if p.Up(node) != m.up(node) {
			t.Fatalf("%s: Up(%d) = %v", what, node, p.Up(node))
		}
		same(t, what, p.Disk(node), m.d[node])
	}
	sameNet(t, what, p.Net(), m.n)
	if a, b := p.Source(), m.from.State(); !alikeStates(a, b) {
		t.Fatalf("%s: Source = %+v, want %+v", what, a, b)
	}
	if a, b := p.Target(), m.to.State(); a != b {
		t.Fatalf("%s: Target = %+v, want %+v", what, a, b)
	}
	if a, b := p.Sender().State(), m.s.State(); a != b || (p.Sender() == nil) != (m.s == nil) {
		t.Fatalf("%s: the sender's State = %+v, want %+v", what, a, b)
	}
	if a, b := p.Taker().State(), m.k.State(); a != b || (p.Taker() == nil) != (m.k == nil) {
		t.Fatalf("%s: the taker's State = %+v, want %+v", what, a, b)
	}
}

// alikeStates reports whether two states of the source's volume are the same.
func alikeStates(a, b origin.State) bool {
	return a.Boot == b.Boot && a.Epoch == b.Epoch && a.Root == b.Root && a.Acked == b.Acked && a.Open == b.Open && a.Kept == b.Kept && slices.Equal(a.Dirty, b.Dirty)
}

// alike reports whether two answers are the same.
func alike(a, b api.Answer) bool {
	return a.Why == b.Why && a.N == b.N && a.M == b.M && a.Data == b.Data && slices.Equal(a.List, b.List)
}

// same tells if two disks differ.
func same(t *testing.T, what string, d, want *disk.Disk) {
	t.Helper()
	if d.Down() != want.Down() || d.Done() != want.Done() || d.Len() != want.Len() || !slices.Equal(d.Waits(), want.Waits()) {
		t.Fatalf("%s: the disk is down %v, %d done, %d sectors, and waits with %v; want %v %d %d %v", what, d.Down(), d.Done(), d.Len(), d.Waits(), want.Down(), want.Done(), want.Len(), want.Waits())
	}
	for at := range want.Len() {
		a, _ := d.Kept(at)
		if b, _ := want.Kept(at); a != b {
			t.Fatalf("%s: sector %d is %q, want %q", what, at, a, b)
		}
	}
}

// sameNet tells if two nets differ.
func sameNet(t *testing.T, what string, n, want *net.Net) {
	t.Helper()
	sent, came, lost := n.Counts()
	if a, b, c := want.Counts(); a != sent || b != came || c != lost || n.Len() != want.Len() {
		t.Fatalf("%s: %d packets, Counts = %d %d %d, want %d, %d %d %d", what, n.Len(), sent, came, lost, want.Len(), a, b, c)
	}
	for i := range want.Len() {
		a, _ := n.At(i)
		if b, _ := want.At(i); a != b {
			t.Fatalf("%s: packet %d is %+v, want %+v", what, i, a, b)
		}
	}
}

// made returns a disk with n sectors.
func made(t *testing.T, n int) *disk.Disk {
	t.Helper()
	d, why := disk.New(n)
	if why != api.OK {
		t.Fatalf("disk.New(%d) = %d", n, why)
	}
	return d
}
