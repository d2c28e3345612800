package net

import (
	"math"
	"math/rand"
	"slices"
	"strconv"
	"strings"
	"testing"

	"pentimento/api"
)

// sent returns a net with packets of these bytes, to the source and the target in turn.
func sent(t *testing.T, l ...string) *Net {
	t.Helper()
	n := New()
	for i, b := range l {
		if why := n.Send(i%2, []byte(b)); why != api.OK {
			t.Fatalf("Send of packet %d = %d", i, why)
		}
	}
	return n
}

// full returns a net with as many packets as there may be.
func full(t *testing.T) *Net {
	t.Helper()
	var l []string
	for i := range 60 {
		l = append(l, "packet "+strconv.Itoa(i))
	}
	return sent(t, l...)
}

// packets returns the packets of a net, by At.
func packets(t *testing.T, n *Net) []api.Packet {
	t.Helper()
	var l []api.Packet
	for i := range n.Len() {
		p, why := n.At(i)
		if why != api.OK {
			t.Fatalf("At(%d) of %d packets = %v %d", i, n.Len(), p, why)
		}
		l = append(l, p)
	}
	return l
}

// has tells if a net has not these packets and counts.
func has(t *testing.T, what string, n *Net, want []api.Packet, sent, came, lost int) {
	t.Helper()
	if l := packets(t, n); !slices.Equal(l, want) {
		t.Errorf("%s: packets %v, want %v", what, l, want)
	}
	if a, b, c := n.Counts(); a != sent || b != came || c != lost {
		t.Errorf("%s: counts %d %d %d, want %d %d %d", what, a, b, c, sent, came, lost)
	}
	if sent != came+lost+n.Len() {
		t.Errorf("%s: %d were sent, %d came, %d were lost, and there are %d", what, sent, came, lost, n.Len())
	}
}

// rejected tells if a call is not rejected by this error, or changes the net or its counts.
func rejected(t *testing.T, what string, n *Net, want api.Errno, call func() (api.Packet, api.Errno)) {
	t.Helper()
	before := packets(t, n)
	a, b, c := n.Counts()
	if p, why := call(); p != (api.Packet{}) || why != want {
		t.Errorf("%s = %v %d, want %d", what, p, why, want)
	}
	has(t, what, n, before, a, b, c)
}

// alone is a call that returns an error alone.
func alone(call func() api.Errno) func() (api.Packet, api.Errno) {
	return func() (api.Packet, api.Errno) { return api.Packet{}, call() }
}

// outside are numbers of no packet of a net.
func outside(n *Net) []int {
	l := n.Len()
	return []int{-1, -2, l, l + 1, -l - 1, 60, 61, 256, 1 << 32, -1 << 32, math.MaxInt, math.MinInt, math.MinInt + 1}
}

// P22.1 and P22.3: the document's example.
func TestExample(t *testing.T) {
	n := New()
	first, second := n.Send(api.Target, []byte("ab")), n.Twice(0)
	p, why := n.Take(0)
	if first != api.OK || second != api.OK || p != (api.Packet{To: 1, B: "ab"}) || why != api.OK {
		t.Errorf("Send %d, Twice %d, Take %v %d", first, second, p, why)
	}
	has(t, "the example", n, []api.Packet{{To: 1, B: "ab"}}, 2, 1, 0)
}

// P22.1: New and Len: no packets, and nets of their own.
func TestNew(t *testing.T) {
	n, o := New(), New()
	if n == nil || o == nil || n == o {
		t.Fatalf("New = %p and %p", n, o)
	}
	has(t, "a new net", n, nil, 0, 0, 0)
	if why := n.Send(0, nil); why != api.OK {
		t.Errorf("Send = %d", why)
	}
	has(t, "another new net", o, nil, 0, 0, 0)
	for i := range 60 {
		if n := sent(t, make([]string, i)...); n.Len() != i {
			t.Errorf("%d packets: Len = %d", i, n.Len())
		}
	}
}

// P22.1: what a nil net answers; a zero one is one without packets.
func TestNil(t *testing.T) {
	var n *Net
	n.Drop()
	a, b, c := n.Counts()
	if n.Len() != 0 || a != 0 || b != 0 || c != 0 || n.Copy() != nil {
		t.Errorf("of a nil net: Len %d, Counts %d %d %d, Copy %v", n.Len(), a, b, c, n.Copy())
	}
	for _, i := range []int{0, 1, -1, 60, math.MaxInt, math.MinInt} {
		p, why := n.At(i)
		q, also := n.Take(i)
		if p != (api.Packet{}) || q != (api.Packet{}) || why != api.ErrNil || also != api.ErrNil {
			t.Errorf("of a nil net: At(%d) = %v %d, Take = %v %d", i, p, why, q, also)
		}
		l := []api.Errno{n.Send(i, []byte("a")), n.Send(i, nil), n.Lose(i), n.Twice(i), n.Cut(i, 0), n.Cut(i, -1), n.Cut(0, i)}
		if !slices.Equal(l, slices.Repeat([]api.Errno{api.ErrNil}, 7)) {
			t.Errorf("of a nil net, with %d: %v", i, l)
		}
	}
	var z Net
	has(t, "a zero net", &z, nil, 0, 0, 0)
	z.Drop()
	if why := z.Send(1, []byte("a")); why != api.OK {
		t.Errorf("Send of a zero net = %d", why)
	}
	has(t, "a zero net", &z, []api.Packet{{To: 1, B: "a"}}, 1, 0, 0)
}

// P22.1: Send and At: packets in their order, of no bytes, of all bytes, and of many.
func TestSend(t *testing.T) {
	all := make([]byte, 256)
	for i := range all {
		all[i] = byte(i)
	}
	n := New()
	var want []api.Packet
	for i, b := range [][]byte{nil, {}, {0}, {255, 0, 255}, []byte("ab"), []byte("ab"), all, make([]byte, 1<<20)} {
		for _, to := range []int{api.Source, api.Target} {
			if why := n.Send(to, b); why != api.OK {
				t.Errorf("Send(%d) of packet %d = %d", to, i, why)
			}
			want = append(want, api.Packet{To: to, B: string(b)})
			has(t, "Send", n, want, len(want), 0, 0)
		}
	}
}

// P22.1: Send to what is no node, also where there is no room.
func TestSendArg(t *testing.T) {
	for _, n := range []*Net{New(), sent(t, "a", "b"), full(t)} {
		for _, to := range []int{-1, 2, 3, 256, 257, 1 << 32, math.MaxInt, math.MinInt, math.MinInt + 1} {
			for _, b := range [][]byte{nil, []byte("ab")} {
				rejected(t, "Send to "+strconv.Itoa(to), n, api.ErrArg, alone(func() api.Errno { return n.Send(to, b) }))
			}
		}
	}
}

// P22.1 and P22.3: Send to a full net: the packet is sent and lost, and the others stay.
func TestSendFull(t *testing.T) {
	n := full(t)
	want := packets(t, n)
	has(t, "a full net", n, want, 60, 0, 0)
	for i := range 5 {
		if why := n.Send(i%2, []byte("one too many")); why != api.ErrFull {
			t.Errorf("Send to a full net = %d", why)
		}
		has(t, "Send to a full net", n, want, 61+i, 0, 1+i)
	}
	// There is room again for one.
	if p, why := n.Take(7); p != want[7] || why != api.OK {
		t.Errorf("Take(7) = %v %d", p, why)
	}
	if why := n.Send(1, []byte("x")); why != api.OK {
		t.Errorf("Send to a net of 59 = %d", why)
	}
	want = append(slices.Delete(want, 7, 8), api.Packet{To: 1, B: "x"})
	has(t, "Send to a net of 59", n, want, 66, 1, 5)
	if why := n.Send(0, nil); why != api.ErrFull {
		t.Errorf("Send to a net that is full again = %d", why)
	}
	has(t, "Send to a net that is full again", n, want, 67, 1, 6)
}

// P22.1: At changes nothing, and there is no packet outside.
func TestAt(t *testing.T) {
	for _, n := range []*Net{New(), sent(t, "a"), sent(t, "a", "", "c"), full(t)} {
		before := packets(t, n)
		has(t, "At", n, before, len(before), 0, 0)
		for _, i := range outside(n) {
			if i >= 0 && i < n.Len() {
				continue
			}
			what := strconv.Itoa(n.Len()) + " packets, " + strconv.Itoa(i)
			rejected(t, "At: "+what, n, api.ErrRange, func() (api.Packet, api.Errno) { return n.At(i) })
			rejected(t, "Take: "+what, n, api.ErrRange, func() (api.Packet, api.Errno) { return n.Take(i) })
			rejected(t, "Lose: "+what, n, api.ErrRange, alone(func() api.Errno { return n.Lose(i) }))
			// A number that is none is told ahead of a net that is full, and of a length.
			rejected(t, "Twice: "+what, n, api.ErrRange, alone(func() api.Errno { return n.Twice(i) }))
			for _, bytes := range []int{0, 1, -1, 1000, math.MaxInt, math.MinInt} {
				rejected(t, "Cut: "+what, n, api.ErrRange, alone(func() api.Errno { return n.Cut(i, bytes) }))
			}
		}
	}
}

// P22.1: Take and Lose of each packet: the others keep their order; the one comes, the other is lost.
func TestTake(t *testing.T) {
	l := []string{"a", "bb", "", "dddd", "a"}
	for i := range l {
		n, o := sent(t, l...), sent(t, l...)
		before := packets(t, n)
		want := slices.Delete(slices.Clone(before), i, i+1)
		if p, why := n.Take(i); p != before[i] || why != api.OK {
			t.Errorf("Take(%d) = %v %d, want %v", i, p, why, before[i])
		}
		has(t, "Take", n, want, 5, 1, 0)
		if why := o.Lose(i); why != api.OK {
			t.Errorf("Lose(%d) = %d", i, why)
		}
		has(t, "Lose", o, want, 5, 0, 1)
	}
	n := full(t)
	for i := range 60 {
		if p, why := n.Take(0); p != (api.Packet{To: i % 2, B: "packet " + strconv.Itoa(i)}) || why != api.OK {
			t.Errorf("Take(0) = %v %d", p, why)
		}
	}
	has(t, "all are taken", n, nil, 60, 60, 0)
	rejected(t, "Take of none", n, api.ErrRange, func() (api.Packet, api.Errno) { return n.Take(0) })
}

// P22.2: Twice of each packet: a copy behind all others.
func TestTwice(t *testing.T) {
	l := []string{"a", "bb", "", "dddd"}
	for i := range l {
		n := sent(t, l...)
		want := packets(t, n)
		for k := range 3 {
			if why := n.Twice(i); why != api.OK {
				t.Errorf("Twice(%d) = %d", i, why)
			}
			want = append(want, want[i])
			has(t, "Twice", n, want, 5+k, 0, 0)
		}
		// What happens to the one does not happen to the other.
		if why := n.Cut(i, 0); why != api.OK {
			t.Errorf("Cut(%d, 0) = %d", i, why)
		}
		want[i].B = ""
		has(t, "Cut of what is there twice", n, want, 7, 0, 0)
		if why := n.Lose(i); why != api.OK {
			t.Errorf("Lose(%d) = %d", i, why)
		}
		has(t, "Lose of what is there twice", n, slices.Delete(want, i, i+1), 7, 0, 1)
	}
}

// P22.2: Twice in a full net changes nothing, and no packet is lost by it.
func TestTwiceFull(t *testing.T) {
	n := sent(t, "a", "b")
	for n.Len() < 60 {
		if why := n.Twice(n.Len() / 2); why != api.OK {
			t.Fatalf("Twice of %d = %d", n.Len(), why)
		}
	}
	for i := range 60 {
		rejected(t, "Twice in a full net", n, api.ErrFull, alone(func() api.Errno { return n.Twice(i) }))
	}
	has(t, "Twice in a full net", n, packets(t, n), 60, 0, 0)
	if why := n.Lose(0); why != api.OK {
		t.Errorf("Lose = %d", why)
	}
	if why := n.Twice(58); why != api.OK {
		t.Errorf("Twice in a net of 59 = %d", why)
	}
	has(t, "Twice in a net of 59", n, packets(t, n), 61, 0, 1)
}

// P22.2: Cut to each length, again and again, and to what is none.
func TestCut(t *testing.T) {
	for i := range 3 {
		l := []string{"abcdef", "ghijkl", "mnopqr"}
		n := sent(t, l...)
		want := packets(t, n)
		for bytes := 6; bytes >= 0; bytes-- {
			// To the length that it has, and once more to that.
			for range 2 {
				if why := n.Cut(i, bytes); why != api.OK {
					t.Errorf("Cut(%d, %d) = %d", i, bytes, why)
				}
				want[i].B = l[i][:bytes]
				has(t, "Cut", n, want, 3, 0, 0)
			}
			for _, wrong := range []int{bytes + 1, bytes + 2, 7, 64, -1, -2, -6, 1 << 32, math.MaxInt, math.MinInt, math.MinInt + 1} {
				if wrong >= 0 && wrong <= bytes {
					continue
				}
				rejected(t, "Cut to "+strconv.Itoa(wrong), n, api.ErrLength, alone(func() api.Errno { return n.Cut(i, wrong) }))
			}
		}
	}
}

// P22.2: Drop loses all that there are, of none, some and as many as there may be.
func TestDrop(t *testing.T) {
	for _, n := range []*Net{New(), sent(t, "a"), sent(t, "a", "b", "c"), full(t)} {
		all := n.Len()
		n.Drop()
		has(t, "Drop", n, nil, all, 0, all)
		n.Drop()
		has(t, "Drop of none", n, nil, all, 0, all)
		if why := n.Send(1, []byte("x")); why != api.OK {
			t.Errorf("Send behind Drop = %d", why)
		}
		has(t, "Send behind Drop", n, []api.Packet{{To: 1, B: "x"}}, all+1, 0, all)
	}
}

// P22.2: each call counts for what it is.
func TestCounts(t *testing.T) {
	n := sent(t, "a", "b", "c", "d", "e")
	whys := []api.Errno{n.Twice(1), n.Twice(1), n.Lose(0), n.Lose(0), n.Lose(0), n.Cut(0, 0)}
	if !slices.Equal(whys, make([]api.Errno, 6)) {
		t.Errorf("%v", whys)
	}
	if p, why := n.Take(1); p != (api.Packet{To: 0, B: "e"}) || why != api.OK {
		t.Errorf("Take(1) = %v %d", p, why)
	}
	has(t, "Counts", n, []api.Packet{{To: 1, B: ""}, {To: 1, B: "b"}, {To: 1, B: "b"}}, 7, 1, 3)
	n.Drop()
	has(t, "Counts behind Drop", n, nil, 7, 1, 6)
}

// P22.2: Copy: what happens to one net does not happen to the other.
func TestCopy(t *testing.T) {
	for what, change := range map[string]func(*Net){
		"Send":          func(n *Net) { n.Send(1, []byte("x")) },
		"Take":          func(n *Net) { n.Take(0) },
		"Lose":          func(n *Net) { n.Lose(1) },
		"Twice":         func(n *Net) { n.Twice(0) },
		"Cut":           func(n *Net) { n.Cut(1, 0) },
		"Drop":          func(n *Net) { n.Drop() },
		"Lose and Send": func(n *Net) { n.Lose(0); n.Send(0, []byte("y")) },
		"Drop and Send": func(n *Net) { n.Drop(); n.Send(0, []byte("y")); n.Send(0, []byte("z")) },
	} {
		n := sent(t, "a", "bb", "ccc", "d", "e")
		n.Take(3)
		n.Lose(3)
		before := packets(t, n)
		c := n.Copy()
		has(t, what+": the copy", c, before, 5, 1, 1)
		change(n)
		has(t, what+" of the net: the copy", c, before, 5, 1, 1)
		n = sent(t, "a", "bb", "ccc", "d", "e")
		n.Take(3)
		n.Lose(3)
		c = n.Copy()
		change(c)
		has(t, what+" of the copy: the net", n, before, 5, 1, 1)
		// Both go on, each by itself.
		n.Send(0, []byte("n"))
		c.Send(0, []byte("c"))
		has(t, what+" of the copy, and Send of both: the net", n, append(before, api.Packet{To: 0, B: "n"}), 6, 1, 1)
		if l := packets(t, c); l[len(l)-1].B != "c" {
			t.Errorf("%s: the copy has %v", what, l)
		}
	}
	has(t, "the copy of a net without packets", New().Copy(), nil, 0, 0, 0)
}

// Rule 5: the bytes that are sent are not kept.
func TestMemory(t *testing.T) {
	n, b := New(), []byte("abc")
	if why := n.Send(0, b); why != api.OK || string(b) != "abc" {
		t.Errorf("Send = %d, and its argument is %q", why, b)
	}
	b[0] = 'x'
	has(t, "Send", n, []api.Packet{{To: 0, B: "abc"}}, 1, 0, 0)
}

// model is a net in an account of its own: each packet that was ever sent, and what became of it.
type model struct{ all []one }

type one struct {
	api.Packet
	fate byte // ' ': in transit, 'd': delivered, 'l': lost
}

// transit returns the indices of the packets that are in transit.
func (m *model) transit() []int {
	var l []int
	for i, p := range m.all {
		if p.fate == ' ' {
			l = append(l, i)
		}
	}
	return l
}

// count returns how many packets have this fate.
func (m *model) count(fate byte) int {
	n := 0
	for _, p := range m.all {
		if p.fate == fate {
			n++
		}
	}
	return n
}

// send sends a packet.
func (m *model) send(p api.Packet) api.Errno {
	if p.To != 0 && p.To != 1 {
		return api.ErrArg
	}
	if m.count(' ') == 60 {
		m.all = append(m.all, one{p, 'l'})
		return api.ErrFull
	}
	m.all = append(m.all, one{p, ' '})
	return api.OK
}

// step does one thing to the net and to the model, and tells if they answer otherwise.
func (m *model) step(t *testing.T, r *rand.Rand, n *Net, what string) {
	t.Helper()
	l := m.transit()
	i := r.Intn(len(l)+3) - 1
	if r.Intn(2) == 0 && len(l) > 0 {
		i = r.Intn(len(l))
	}
	var p *one
	want := api.ErrRange
	if i >= 0 && i < len(l) {
		p, want = &m.all[l[i]], api.OK
	}
	var why api.Errno
	switch strings.Fields(what)[0] {
	case "Send":
		packet := api.Packet{To: r.Intn(4) - 1, B: strconv.Itoa(r.Intn(100000))}
		why, want = n.Send(packet.To, []byte(packet.B)), m.send(packet)
	case "Take":
		var got api.Packet
		got, why = n.Take(i)
		if p != nil {
			p.fate = 'd'
			if got != p.Packet {
				t.Fatalf("Take(%d) = %v, want %v", i, got, p.Packet)
			}
		}
	case "Lose":
		if why = n.Lose(i); p != nil {
			p.fate = 'l'
		}
	case "Twice":
		why = n.Twice(i)
		if p != nil && len(l) == 60 {
			want = api.ErrFull
		} else if p != nil {
			m.all = append(m.all, *p)
		}
	case "Cut":
		bytes := r.Intn(7) - 1
		why = n.Cut(i, bytes)
		if p != nil && (bytes < 0 || bytes > len(p.B)) {
			want = api.ErrLength
		} else if p != nil {
			p.B = p.B[:bytes]
		}
	case "Drop":
		n.Drop()
		want = api.OK
		for _, k := range l {
			m.all[k].fate = 'l'
		}
	}
	if why != want {
		t.Fatalf("%s of %d, with %d packets: %d, want %d", what, i, len(l), why, want)
	}
}

// P22.1 to P22.3: random calls, against a model; nets with few packets, and with as many as there may be.
func TestRandom(t *testing.T) {
	few := []string{"Send", "Send", "Take", "Lose", "Twice", "Cut", "Cut"}
	many := []string{"Send", "Send", "Send", "Send", "Take", "Twice", "Twice", "Twice", "Lose", "Cut"}
	for seed := range 60 {
		r := rand.New(rand.NewSource(int64(seed)))
		n, m := New(), &model{}
		names := few
		if seed%2 == 1 {
			names = many
		}
		for step := range 400 {
			what := names[r.Intn(len(names))]
			if step%150 == 149 {
				what = "Drop"
			}
			m.step(t, r, n, what)
			var want []api.Packet
			for _, i := range m.transit() {
				want = append(want, m.all[i].Packet)
			}
			has(t, what, n, want, len(m.all), m.count('d'), m.count('l'))
			if step%50 == 0 {
				n = n.Copy()
			}
		}
	}
}
