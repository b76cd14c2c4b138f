package disk

import (
	"iter"
	"slices"

	"puncheon/api"
	"puncheon/tree"
)

// fresh answers a disk on which t, whose list is its own, is safe, with any room.
func fresh(t api.Tree) api.Disk {
	return api.Disk{Safe: t, Room: api.AnyRoom}
}

// copied answers d in memory of its own.
func copied(d api.Disk) api.Disk {
	d.Safe.Items = slices.Clone(d.Safe.Items)
	d.Wait = slices.Clone(d.Wait)
	return d
}

// change answers what do makes of d, if that may be; do is handed the tree as it is.
func change(d api.Disk, do func(now api.Tree) (api.Disk, api.Errno)) (api.Disk, api.Errno) {
	now, e := Now(d)
	if e != api.OK {
		return api.Disk{}, e
	}
	return do(now)
}

// run is Run of a disk that may be, of which now is the tree as it is.
func run(d api.Disk, now api.Tree, l []api.Op, free bool) (api.Disk, int, api.Errno) {
	after, many, e := copied(d), 0, api.OK
run:
	for behind, fault := range behindEach(after, now, l, free) {
		if e = fault; e != api.OK {
			break run
		}
		after = behind
		many++
	}
	return after, many, e
}

// behindEach tells the disk behind each operation of l, one behind the other, and by which error there is none. Who goes over them leaves at the first error: behind it nothing is promised. The list of what waits on d is its own.
func behindEach(d api.Disk, now api.Tree, l []api.Op, free bool) iter.Seq2[api.Disk, api.Errno] {
	// The tree is asked at once about all that can come to wait: asked about one by one it would be copied as often. Behind all that can, refusal answers ErrFull.
	_, fine, fault := tree.Run(now, l[:min(len(l), api.MaxWait-len(d.Wait))])
	return func(yield func(api.Disk, api.Errno) bool) {
		behind := d
		for n, op := range l {
			e := refusal(behind, op, free)
			if e == api.OK && n == fine {
				e = fault
			}
			if e == api.OK {
				behind = waiting(behind, op, free)
			}
			if !yield(behind, e) {
				return
			}
		}
	}
}

// refusal answers by which error op can't come to wait on d, whatever the tree is.
func refusal(d api.Disk, op api.Op, free bool) api.Errno {
	switch {
	case len(d.Wait) == api.MaxWait:
		return api.ErrFull
	case d.Room == 0 && Needs(op) && !free:
		return api.ErrRoom
	}
	return api.OK
}

// waiting answers d with op behind all that waits.
func waiting(d api.Disk, op api.Op, free bool) api.Disk {
	d.Wait = append(d.Wait, op)
	if d.Room != api.AnyRoom && Needs(op) && !free {
		d.Room--
	}
	return d
}

// kept answers of what waits those operations of which a fall leaves something: the first ones, and the next one, if bytes of it are left, with these alone.
func kept(wait []api.Op, keep, cut int) []api.Op {
	whole := wait[:keep:keep]
	if cut == 0 || keep == len(wait) || !inParts(wait[keep]) {
		return whole
	}
	next := wait[keep]
	next.Data = next.Data[:min(cut, len(next.Data))]
	// As whole has no room behind its end, this is a copy: what waits stays as it is.
	return append(whole, next)
}

// inParts tells whether a fall may leave a part of op.
func inParts(op api.Op) bool {
	return op.Kind == api.OpWrite || op.Kind == api.OpAppend
}
