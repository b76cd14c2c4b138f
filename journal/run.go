package journal

import (
	"iter"

	"puncheon/api"
	"puncheon/disk"
)

// pieces tells the steps of l, one behind the other, so many at once as are alike.
//
// A disk that is asked about steps one by one does all that waits on it anew for each.
func pieces(l []api.Step, alike func(a, b api.Step) bool) iter.Seq[[]api.Step] {
	return func(yield func([]api.Step) bool) {
		for from := 0; from < len(l); {
			to := from + 1
			for to < len(l) && alike(l[from], l[to]) {
				to++
			}
			if !yield(l[from:to:to]) {
				return
			}
			from = to
		}
	}
}

// opsOf answers the operations of steps.
func opsOf(l []api.Step) []api.Op {
	ops := make([]api.Op, len(l))
	for n, s := range l {
		ops[n] = s.Op
	}
	return ops
}

// run is Run of a disk and steps that may be; the disk's lists are its own.
func run(d api.Disk, l []api.Step) (api.Disk, int, api.Errno) {
	many, e := 0, api.OK
	// Steps of one sort are done by one call of package disk; where there is any room it is all one whether they are free.
	alike := func(a, b api.Step) bool {
		return a.Sync == b.Sync && (a.Free == b.Free || d.Room == api.AnyRoom)
	}
	goOn := func(piece []api.Step) {
		done := len(piece)
		if piece[0].Sync {
			// A Sync once more changes nothing, so that one does for all.
			d, e = disk.Sync(d)
		} else {
			d, done, e = disk.Run(d, opsOf(piece), piece[0].Free)
		}
		many += done
	}
run:
	for piece := range pieces(l, alike) {
		goOn(piece)
		if e != api.OK {
			break run
		}
	}
	return d, many, e
}
