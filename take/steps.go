package take

import (
	"pentimento/api"
	"pentimento/walk"
)

// hello takes an offer.
func (t *Taker) hello(f api.Frame) ([]api.Frame, api.Errno) {
	c := t.volume.Config()
	switch {
	case f.Session < t.volume.State().Session:
		return nil, api.ErrSession
	case f.Vol != c.Vol:
		return t.refuse(f, api.ErrVolume)
	case f.N != c.G.N || f.F != c.G.F:
		return t.refuse(f, api.ErrGeom)
	case t.busy && f.Session == t.session && f.Epoch == t.epoch:
		return t.request(), api.OK
	}
	if why := t.enter(f.Session); why != api.OK {
		return nil, why
	}
	known := t.volume.State()
	switch {
	case f.Epoch < known.Epoch:
		return t.refuse(f, api.ErrEpoch)
	case f.Epoch > known.Epoch:
		return t.begin(f)
	case f.Data != known.Root:
		return t.refuse(f, api.ErrRoot)
	}
	return t.acknowledge(f)
}

// enter ends what goes on, and goes to a session.
func (t *Taker) enter(session uint64) api.Errno {
	if t.busy {
		if why := t.volume.Back(); why != api.OK {
			return why
		}
		t.busy = false
	}
	if why := t.volume.Session(session); why != api.OK {
		return why
	}
	if session != t.session {
		t.session, t.acked = session, 0
	}
	return api.OK
}

// begin begins a try to reach the epoch that a frame offers.
func (t *Taker) begin(f api.Frame) ([]api.Frame, api.Errno) {
	switch why := t.volume.Begin(f.Epoch, f.Data); why {
	case api.OK:
	case api.ErrEpoch, api.ErrLength, api.ErrFull:
		return t.refuse(f, why)
	default:
		return nil, why
	}
	// As the try has begun, there is a tree, and the root is a digest: New has no error.
	t.walk, _ = walk.New(t.volume.Tree(), f.Data)
	t.epoch, t.busy = f.Epoch, true
	return t.proceed(f, func() api.Errno { return api.OK })
}

// supplied takes a frame that may have what the walk awaits.
func (t *Taker) supplied(f api.Frame, supply func() api.Errno) ([]api.Frame, api.Errno) {
	switch {
	case f.Session != t.volume.State().Session:
		return nil, api.ErrSession
	case !t.busy:
		return nil, api.ErrState
	case f.Epoch != t.epoch:
		return nil, api.ErrEpoch
	}
	return t.proceed(f, supply)
}

// data supplies the walk with a sector, and writes it.
func (t *Taker) data(f api.Frame) api.Errno {
	if why := t.walk.Data(f.Index, f.Data); why != api.OK {
		return why
	}
	return t.volume.Apply(f.Index, f.Data)
}

// proceed goes on with the walk behind what a frame supplies, and completes the try when nothing is awaited. With an error that no other frame can mend, the taker gives up.
func (t *Taker) proceed(f api.Frame, supply func() api.Errno) (out []api.Frame, why api.Errno) {
	defer func() {
		switch why {
		case api.ErrDigest, api.ErrUndo, api.ErrRoot:
			out, why = t.giveUp(f, why)
		}
	}()
	if why := supply(); why != api.OK {
		return nil, why
	}
	if !t.walk.Done() {
		return t.request(), api.OK
	}
	if why := t.volume.Finish(); why != api.OK {
		return nil, why
	}
	t.busy = false
	return t.acknowledge(f)
}

// giveUp ends the try, and tells the source why.
func (t *Taker) giveUp(f api.Frame, why api.Errno) ([]api.Frame, api.Errno) {
	if back := t.volume.Back(); back != api.OK {
		return nil, back
	}
	t.busy = false
	return t.refuse(f, why)
}

// refuse tells the source with which error its frame, or the try, ends.
func (t *Taker) refuse(f api.Frame, why api.Errno) ([]api.Frame, api.Errno) {
	return t.reply(api.Frame{Kind: api.FrRefuse, Session: f.Session, Epoch: f.Epoch, Code: int(why)}), why
}

// acknowledge tells the source that the volume has the epoch of its frame.
func (t *Taker) acknowledge(f api.Frame) ([]api.Frame, api.Errno) {
	t.acked = f.Epoch
	return t.reply(api.Frame{Kind: api.FrAck, Session: f.Session, Epoch: f.Epoch}), api.OK
}

// request returns the frame of what the walk awaits, and none if it awaits nothing, as when the disk failed at its end.
func (t *Taker) request() []api.Frame {
	f := api.Frame{Session: t.session, Epoch: t.epoch}
	kind, index := t.walk.Next()
	switch kind {
	case walk.Ask:
		f.Kind, f.Index = api.FrAsk, index
	case walk.Want:
		f.Kind, f.Index = api.FrWant, index
	default:
		return nil
	}
	return t.reply(f)
}

// reply returns a frame with the next number.
func (t *Taker) reply(f api.Frame) []api.Frame {
	f.Seq = t.frames
	t.frames++
	return []api.Frame{f}
}
