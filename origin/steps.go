package origin

import (
	"pentimento/api"
	"pentimento/cow"
	"pentimento/dirty"
	"pentimento/disk"
	"pentimento/geom"
	"pentimento/rec"
	"pentimento/sector"
	"pentimento/slot"
	"pentimento/word"
)

const (
	// The locations of the volume's record, of the slot for the starts, and of that for the seals.
	superAt = 0
	bootAt  = 1
	sealAt  = 3

	// Starts and epochs are in so many bytes.
	numWidth  = 8
	rootBytes = 32

	bootBytes = numWidth
	// The epoch and its root, and behind these the acknowledged epoch.
	sealBytes = numWidth + rootBytes + numWidth
)

// seal is the epoch that was sealed last, the digest of its root, and the greatest epoch that was acknowledged.
type seal struct {
	epoch uint64
	root  string
	acked uint64
}

// perform performs steps one by one. When one has an error, the disk is mostly down, and none of those behind it is tried.
func perform(steps ...func() api.Errno) api.Errno {
	why := api.OK
	for _, step := range steps {
		why = step()
		if why != api.OK {
			goto end
		}
	}
end:
	return why
}

// fault returns why a disk can not be made a volume with these sectors, and OK if it can.
func fault(d *disk.Disk, g api.Geom, sectors []string) api.Errno {
	if d.Len() < geom.Size(g, api.Source) {
		return api.ErrRange
	}
	if len(sectors) > g.N {
		return api.ErrLong
	}
	for _, data := range sectors {
		if !sector.Right(data) {
			return api.ErrLength
		}
	}
	return api.OK
}

// fill writes the data sectors, from 0 on.
func fill(d *disk.Disk, g api.Geom, sectors []string) api.Errno {
	for i, data := range sectors {
		if why := d.Write(geom.Data(g, i), data); why != api.OK {
			return why
		}
	}
	return api.OK
}

// config returns the source's volume that a disk has.
func config(d *disk.Disk) (api.Config, api.Errno) {
	data, why := d.Read(superAt)
	if why != api.OK {
		return api.Config{}, why
	}
	side, c, why := rec.Config(data)
	if why != api.OK {
		return api.Config{}, why
	}
	if side != api.Source {
		return api.Config{}, api.ErrKind
	}
	if d.Len() < geom.Size(c.G, side) {
		return api.Config{}, api.ErrRange
	}
	return c, api.OK
}

// start counts one more start.
func (v *Volume) start() api.Errno {
	number, body, why := slot.Load(v.disk, bootAt, rec.Boot)
	if why != api.OK {
		return why
	}
	if len(body) != bootBytes {
		return api.ErrForm
	}
	starts, _ := word.Get([]byte(body), 0, numWidth)
	v.boot = starts + 1
	return slot.Save(v.disk, bootAt, rec.Boot, number+1, bootBody(v.boot))
}

// loadSeal takes the last seal from the disk.
func (v *Volume) loadSeal() api.Errno {
	number, body, why := slot.Load(v.disk, sealAt, rec.Epoch)
	if why != api.OK {
		return why
	}
	if len(body) != sealBytes {
		return api.ErrForm
	}
	r := word.New([]byte(body))
	v.number = number
	v.last = seal{epoch: r.Num(numWidth), root: string(r.Bytes(rootBytes)), acked: r.Num(numWidth)}
	return api.OK
}

// loadMap takes the map from the disk. The snapshot can be but that of the last seal.
func (v *Volume) loadMap() api.Errno {
	m, why := dirty.Load(v.disk)
	if why != api.OK {
		return why
	}
	if m.Open != 0 && m.Open != v.last.epoch {
		return api.ErrForm
	}
	v.dirty = m
	return api.OK
}

// loadKept takes what was preserved for the open snapshot from the disk.
func (v *Volume) loadKept() api.Errno {
	if v.dirty.Open == 0 {
		return api.OK
	}
	kept, why := cow.Scan(v.disk, v.config.G, v.dirty.Open)
	v.kept = kept
	return why
}

// mark makes sector i a dirty one.
func (v *Volume) mark(i int) api.Errno {
	if v.dirty.Now.Has(i) {
		return api.OK
	}
	m, why := v.dirty.Mark(i)
	if why != api.OK {
		return why
	}
	return v.saveMap(m)
}

// preserve saves sector i for the open snapshot, if that has not got it already. If there is no more room, the snapshot is given up, as no write fails for it.
func (v *Volume) preserve(i int) api.Errno {
	if v.dirty.Open == 0 {
		return api.OK
	}
	if _, is := cow.Find(v.kept, i); is {
		return api.OK
	}
	if len(v.kept) >= v.config.G.Cow {
		return v.giveUp()
	}
	e, why := cow.Append(v.disk, v.config.G, len(v.kept), v.dirty.Open, i)
	if why != api.OK {
		return why
	}
	v.kept = append(v.kept, e)
	return api.OK
}

// giveUp gives the snapshot up, if one is open: what it was to tell is dirty still.
func (v *Volume) giveUp() api.Errno {
	if v.dirty.Open == 0 {
		return api.OK
	}
	return v.saveMap(v.dirty.Merge())
}

// acknowledge makes an epoch the acknowledged one, if it is greater.
func (v *Volume) acknowledge(epoch uint64) api.Errno {
	if epoch <= v.last.acked {
		return api.OK
	}
	next := v.last
	next.acked = epoch
	return v.saveSeal(next)
}

// release closes the snapshot of an epoch, if that is the open one.
func (v *Volume) release(epoch uint64) api.Errno {
	if epoch != v.dirty.Open {
		return api.OK
	}
	return v.saveMap(v.dirty.Close())
}

// saveSeal saves another seal, as the slot's next record.
func (v *Volume) saveSeal(next seal) api.Errno {
	if why := slot.Save(v.disk, sealAt, rec.Epoch, v.number+1, sealBody(next)); why != api.OK {
		return why
	}
	v.last, v.number = next, v.number+1
	return api.OK
}

// saveMap saves another map. What was preserved is of no use without the snapshot for which it was.
func (v *Volume) saveMap(m dirty.Map) api.Errno {
	if why := dirty.Save(v.disk, m); why != api.OK {
		return why
	}
	if m.Open != v.dirty.Open {
		v.kept = nil
	}
	v.dirty = m
	return api.OK
}

// bootBody returns the body of a record of starts.
func bootBody(starts uint64) string { return string(word.Put(nil, numWidth, starts)) }

// sealBody returns the body of a record of a seal.
func sealBody(s seal) string {
	return string(word.Put([]byte(string(word.Put(nil, numWidth, s.epoch))+s.root), numWidth, s.acked))
}
