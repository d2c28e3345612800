package mirror

import (
	"pentimento/api"
	"pentimento/disk"
	"pentimento/geom"
	"pentimento/nodes"
	"pentimento/rec"
	"pentimento/roll"
	"pentimento/sector"
	"pentimento/slot"
	"pentimento/tree"
	"pentimento/undo"
	"pentimento/word"
)

const (
	// The locations of the volume's record, of the slot for the starts, and of that for the epoch.
	superAt  = 0
	bootAt   = 1
	commitAt = 3

	// Starts, sessions and epochs are in so many bytes.
	numWidth  = 8
	rootBytes = 32

	bootBytes   = 2 * numWidth
	commitBytes = numWidth + rootBytes

	// A tag has the number of the try in its last bits, and the number of starts ahead of these.
	tryBits   = 20
	mostTries = 1<<tryBits - 1
)

// try is an attempt to reach an epoch.
type try struct {
	tag   uint64
	epoch uint64
	root  string
	// The tree of the volume's epoch with the sectors that were applied.
	tree    *tree.Tree
	entries []api.Entry
}

// perform performs steps one by one, up to the first one that has an error.
func perform(steps ...func() api.Errno) api.Errno {
	for _, step := range steps {
		if why := step(); why != api.OK {
			return why
		}
	}
	return api.OK
}

// fault returns why a disk can not be made a volume with these sectors, and OK if it can.
func fault(d *disk.Disk, g api.Geom, sectors []string) api.Errno {
	if d.Len() < geom.Size(g, api.Target) {
		return api.ErrRange
	}
	if len(sectors) > g.N {
		return api.ErrLong
	}
	for _, data := range sectors {
		if !sector.Right(data) {
			return api.ErrLength
		}
	}
	return api.OK
}

// fill writes the data sectors, from 0 on.
func fill(d *disk.Disk, g api.Geom, sectors []string) api.Errno {
	for i, data := range sectors {
		if why := d.Write(geom.Data(g, i), data); why != api.OK {
			return why
		}
	}
	return api.OK
}

// config returns the target's volume that a disk has.
func config(d *disk.Disk) (api.Config, api.Errno) {
	data, why := d.Read(superAt)
	if why != api.OK {
		return api.Config{}, why
	}
	side, c, why := rec.Config(data)
	if why != api.OK {
		return api.Config{}, why
	}
	if side != api.Target {
		return api.Config{}, api.ErrKind
	}
	if d.Len() < geom.Size(c.G, side) {
		return api.Config{}, api.ErrRange
	}
	return c, api.OK
}

// start counts one more start.
func (v *Volume) start() api.Errno {
	number, body, why := slot.Load(v.disk, bootAt, rec.Boot)
	if why != api.OK {
		return why
	}
	if len(body) != bootBytes {
		return api.ErrForm
	}
	r := word.New([]byte(body))
	next := v.known
	next.boot, next.session = r.Num(numWidth)+1, r.Num(numWidth)
	v.bootNumber = number
	return v.saveBoot(next)
}

// loadCommit takes the epoch and its root from the disk.
func (v *Volume) loadCommit() api.Errno {
	number, body, why := slot.Load(v.disk, commitAt, rec.Commit)
	if why != api.OK {
		return why
	}
	if len(body) != commitBytes {
		return api.ErrForm
	}
	r := word.New([]byte(body))
	v.epoch, v.root, v.commitNumber = r.Num(numWidth), string(r.Bytes(rootBytes)), number
	return api.OK
}

// restore undoes what is there of a try for a later epoch.
func (v *Volume) restore() api.Errno {
	l, why := undo.Scan(v.disk, v.config.G, v.epoch)
	if why != api.OK || len(l) == 0 {
		return why
	}
	return roll.Back(v.disk, v.config.G, l)
}

// loadTree takes the tree from the disk. It must be that of the epoch.
func (v *Volume) loadTree() api.Errno {
	digests, why := nodes.All(v.disk, v.config.G)
	if why != api.OK {
		return why
	}
	v.tree, why = tree.From(v.config.G, digests...)
	if why != api.OK {
		return why
	}
	if v.tree.Root() != v.root {
		return api.ErrRoot
	}
	return api.OK
}

// entries are those of the try, and none without one.
func (v *Volume) entries() []api.Entry {
	if v.try == nil {
		return nil
	}
	return v.try.entries
}

// protect saves what is at a location of the disk, if the try has not done so.
func (v *Volume) protect(at int) api.Errno {
	if _, is := roll.Find(v.try.entries, at); is {
		return api.OK
	}
	if len(v.try.entries) >= v.config.G.Undo {
		return api.ErrUndo
	}
	e, why := undo.Append(v.disk, v.config.G, len(v.try.entries), v.try.tag, v.try.epoch, at)
	if why != api.OK {
		return why
	}
	v.try.entries = append(v.try.entries, e)
	return api.OK
}

// putNodes writes the nodes of the try's tree that are not those of the epoch's.
func (v *Volume) putNodes() api.Errno {
	g := v.config.G
	for node := range geom.Nodes(g) {
		// Both trees have this node, so that Digest has no error.
		was, _ := v.tree.Digest(node)
		now, _ := v.try.tree.Digest(node)
		if now == was {
			continue
		}
		if why := v.protect(geom.Node(g, node)); why != api.OK {
			return why
		}
		if why := nodes.Put(v.disk, g, node, now); why != api.OK {
			return why
		}
	}
	return api.OK
}

// commit makes the epoch of the try that of the volume. The entries are of no use from there on: they are of no later epoch.
func (v *Volume) commit() api.Errno {
	next := v.known
	next.epoch, next.root = v.try.epoch, v.try.root
	next.commitNumber++
	if why := slot.Save(v.disk, commitAt, rec.Commit, next.commitNumber, commitBody(next)); why != api.OK {
		return why
	}
	v.known, v.tree, v.try = next, v.try.tree, nil
	return api.OK
}

// saveBoot saves another number of starts, or another session, as the slot's next record.
func (v *Volume) saveBoot(next known) api.Errno {
	next.bootNumber = v.bootNumber + 1
	if why := slot.Save(v.disk, bootAt, rec.Boot, next.bootNumber, bootBody(next)); why != api.OK {
		return why
	}
	v.known = next
	return api.OK
}

// bootBody returns the body of a record of starts.
func bootBody(k known) string {
	return string(word.Put(word.Put(nil, numWidth, k.boot), numWidth, k.session))
}

// commitBody returns the body of a record of an epoch.
func commitBody(k known) string { return string(word.Put(nil, numWidth, k.epoch)) + k.root }
