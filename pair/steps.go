package pair

import (
	"pentimento/api"
	"pentimento/disk"
	"pentimento/frame"
	"pentimento/geom"
	"pentimento/mirror"
	"pentimento/origin"
	"pentimento/scrub"
	"pentimento/send"
	"pentimento/take"
)

// refused returns an answer that is nothing but an error, or OK.
func refused(why api.Errno) api.Answer { return api.Answer{Why: why} }

func isNode(node int) bool { return node == api.Source || node == api.Target }

// format gives a node a new disk, with the sectors.
func (p *Pair) format(node int, format func(*disk.Disk, api.Config, ...string) api.Errno, sectors []string) api.Errno {
	d, why := disk.New(geom.Size(p.config.G, node))
	if why != api.OK {
		return why
	}
	p.disks[node] = d
	return format(d, p.config, sectors...)
}

// open brings a node up, whose disk is, and returns how often it started.
func (p *Pair) open(node int) (uint64, api.Errno) {
	if node == api.Source {
		v, why := origin.Open(p.disks[node])
		if why != api.OK {
			return 0, why
		}
		p.sender = send.New(v)
		return v.State().Boot, api.OK
	}
	v, why := mirror.Open(p.disks[node])
	if why != api.OK {
		return 0, why
	}
	p.taker = take.New(v)
	return v.State().Boot, api.OK
}

// step performs a step of a node: what it does, and, whatever that did, its end.
func (p *Pair) step(node int, s api.Step, what func(api.Step) (api.Answer, []api.Frame)) (a api.Answer) {
	switch {
	case !isNode(node):
		return refused(api.ErrArg)
	case s.Kind != api.StBoot && !p.Up(node):
		return refused(api.ErrDown)
	}
	var frames []api.Frame
	// What the node returned is sent only here, as a node that went down sends nothing.
	defer func() { a = p.end(node, s, a, frames) }()
	p.fuse(node, s)
	a, frames = what(s)
	return a
}

// fuse lets the disk of a node go down where the step says.
func (p *Pair) fuse(node int, s api.Step) {
	if s.Stop > 0 {
		p.disks[node].Fuse(s.Stop - 1)
	}
}

// end sends the frames that a node returned in a step, or lets it go down with its disk.
func (p *Pair) end(node int, s api.Step, a api.Answer, frames []api.Frame) api.Answer {
	d := p.disks[node]
	if !d.Down() {
		d.Fuse(-1)
		p.send(1-node, frames)
		return a
	}
	d.Crash(s.Keep...)
	if node == api.Source {
		p.sender = nil
	} else {
		p.taker = nil
	}
	// A crash is what was asked for, and a boot tells itself why it came to nothing.
	if s.Kind == api.StCrash || s.Kind == api.StBoot {
		return a
	}
	return refused(api.ErrDown)
}

// send sends frames to a node. Those for which there is no room are lost.
func (p *Pair) send(to int, frames []api.Frame) {
	for _, f := range frames {
		if b, why := frame.Put(f); why == api.OK {
			p.net.Send(to, b)
		}
	}
}

// operate performs a step of the source alone.
func (p *Pair) operate(s api.Step) (a api.Answer, frames []api.Frame) {
	v := p.sender.Volume()
	switch s.Kind {
	case api.StRead:
		a.Data, a.Why = v.Read(s.At)
	case api.StWrite:
		a.Why = v.Write(s.At, s.Data)
	case api.StFlush:
		a.Why = v.Flush()
	case api.StSeal:
		epoch, why := v.Seal()
		a.N, a.Why = int64(epoch), why
	case api.StConnect:
		f, why := p.sender.Connect()
		if why != api.OK {
			return refused(why), nil
		}
		a.N, frames = int64(f.Session), []api.Frame{f}
	}
	return a, frames
}

// view shows a sector of the target's.
func (p *Pair) view(s api.Step) (a api.Answer, _ []api.Frame) {
	a.Data, a.Why = p.taker.Volume().Read(s.At)
	return a, nil
}

// tick lets a node tell once more what it waits for.
func (p *Pair) tick(s api.Step) (api.Answer, []api.Frame) {
	var frames []api.Frame
	if s.Node == api.Source {
		frames = p.sender.Tick()
	} else {
		frames = p.taker.Tick()
	}
	return api.Answer{N: int64(len(frames))}, frames
}

// scrub holds a node's tree against its sectors, but for what neither has to fit: what was written since the last seal, and a try.
func (p *Pair) scrub(s api.Step) (api.Answer, []api.Frame) {
	var but []int
	if s.Node == api.Source {
		but = p.Source().Dirty
	} else if p.Target().Try != 0 {
		return refused(api.ErrState), nil
	}
	l, why := scrub.Find(p.disks[s.Node], p.config.G, but...)
	return api.Answer{Why: why, N: int64(len(l)), List: l}, nil
}

// crash lets a node's disk go down, and at the step's end the node goes down with it.
func (p *Pair) crash(s api.Step) (api.Answer, []api.Frame) {
	p.disks[s.Node].Crash(s.Keep...)
	return api.Answer{}, nil
}

// boot lets a node come up. If its volume can't be opened, the disk goes down again, and at the step's end the node stays so.
func (p *Pair) boot(s api.Step) (api.Answer, []api.Frame) {
	if p.Up(s.Node) {
		return refused(api.ErrUp), nil
	}
	d := p.disks[s.Node]
	// The disk may be up already, by another hand: its volume is opened all the same. One that comes up has no fuse.
	d.Up()
	p.fuse(s.Node, s)
	starts, why := p.open(s.Node)
	if why != api.OK {
		d.Crash(s.Keep...)
	}
	return api.Answer{Why: why, N: int64(starts)}, nil
}

// deliver lets a packet come to its node, and loses it if that is down.
func (p *Pair) deliver(s api.Step) api.Answer {
	packet, why := p.net.At(s.N)
	if why != api.OK {
		return refused(why)
	}
	if !p.Up(packet.To) {
		p.net.Lose(s.N)
		return refused(api.ErrDown)
	}
	return p.step(packet.To, s, func(api.Step) (api.Answer, []api.Frame) {
		// The same packet, which is there.
		p.net.Take(s.N)
		return p.receive(packet)
	})
}

// receive lets a node take what came.
func (p *Pair) receive(packet api.Packet) (api.Answer, []api.Frame) {
	f, why := frame.Get([]byte(packet.B))
	if why != api.OK {
		return refused(why), nil
	}
	var frames []api.Frame
	if packet.To == api.Source {
		frames, why = p.sender.Take(f)
	} else {
		frames, why = p.taker.Take(f)
	}
	return api.Answer{Why: why, N: int64(f.Kind)}, frames
}

// befall does to the net what a step of no node says.
func (p *Pair) befall(s api.Step) api.Errno {
	switch s.Kind {
	case api.StLose:
		return p.net.Lose(s.N)
	case api.StTwice:
		return p.net.Twice(s.N)
	case api.StCut:
		return p.net.Cut(s.N, s.At)
	}
	p.net.Drop()
	return api.OK
}
