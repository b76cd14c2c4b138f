package disk_test

import (
	"math"
	"slices"
	"strings"
	"testing"

	"puncheon/api"
	"puncheon/disk"
	"puncheon/tree"
)

// model is a second reading of the chapter: the safe tree, and the one behind each operation that waits.
type model struct {
	trees []api.Tree
	wait  []api.Op
	room  int
}

func modelOf(d api.Disk) model {
	m := model{trees: []api.Tree{d.Safe}, room: api.AnyRoom}
	m.run(d.Wait, true)
	m.room = d.Room
	return m
}

// now is the tree as it is.
func (m *model) now() api.Tree {
	return m.trees[len(m.trees)-1]
}

// run runs operations one by one, each held against all that may be wrong with it.
func (m *model) run(l []api.Op, free bool) (int, api.Errno) {
	for n, op := range l {
		costs := 0
		if !free && 1 <= op.Kind && op.Kind <= 4 {
			costs = 1
		}
		if len(m.wait) >= 8000 {
			return n, api.ErrFull
		}
		if m.room == 0 && costs > 0 {
			return n, api.ErrRoom
		}
		next, e := tree.Do(m.now(), op)
		if e != api.OK {
			return n, e
		}
		m.trees, m.wait = append(m.trees, next), append(m.wait, op)
		if m.room > 0 {
			m.room -= costs
		}
	}
	return len(l), api.OK
}

// fall is the tree that is left, in which the file that was on its way is laid by hand.
func (m *model) fall(keep, cut int) api.Tree {
	left := m.trees[keep]
	if cut == 0 || keep == len(m.wait) {
		return left
	}
	next := m.wait[keep]
	file, _ := tree.Get(left, next.Path)
	switch next.Kind {
	case api.OpWrite:
		file = api.Item{Path: next.Path, Kind: api.KFile}
	case api.OpAppend:
	default:
		return left
	}
	for at := 0; at < len(next.Data) && at < cut; at++ {
		file.Data += next.Data[at : at+1]
	}
	others := slices.DeleteFunc(slices.Clone(left.Items), func(item api.Item) bool { return item.Path == next.Path })
	left, _ = tree.Of(append(others, file))
	return left
}

// disk is the disk that is told of in the model.
func (m *model) disk() api.Disk {
	return api.Disk{Safe: m.trees[0], Wait: m.wait, Room: m.room}
}

// held holds a disk, and the tree as it is, against the model; what comes may be.
func held(t *testing.T, d api.Disk, m *model) {
	t.Helper()
	if !alike(d, m.disk()) || disk.Check(d) != api.OK {
		t.Fatalf("%v, not %v; Check: %d", d, m.disk(), disk.Check(d))
	}
	if now, e := disk.Now(d); e != api.OK || !tree.Same(now, m.now()) || tree.Check(now) != api.OK {
		t.Fatalf("Now(%v): %v %d, not %v", d, now, e, m.now())
	}
}

// numbers answers numbers that go up and down, the same ones each time.
func numbers() func(n int) int {
	state := uint64(54321)
	return func(n int) int {
		state = state*6364136223846793005 + 1442695040888963407
		return int(state>>33) % n
	}
}

// allOps are operations of all kinds at places that lie close together, some of which may not be.
func allOps() []api.Op {
	var l []api.Op
	for p := range strings.SplitSeq("/ /a /a/b /a/b/c /b q", " ") {
		for _, kind := range []string{"mkdir P", "write P", "write P 1", "write P 234", "append P 56", "append P", "link P a", "move P /a", "move P /b", "move P /a/b", "unlink P", "rmdir P"} {
			l = append(l, ops(strings.ReplaceAll(kind, "P", p))...)
		}
	}
	return append(l, api.Op{}, api.Op{Kind: 8, Path: "/a"})
}

// someOps are at most so many operations; most of them go on from the tree, if likely, and else as they come.
func someOps(next func(int) int, now api.Tree, most int, likely bool) []api.Op {
	all := allOps()
	var l []api.Op
	for range next(most + 1) {
		op := all[next(len(all))]
		after, e := tree.Do(now, op)
		for likely && e != api.OK && next(20) > 0 {
			op = all[next(len(all))]
			after, e = tree.Do(now, op)
		}
		if e == api.OK {
			now = after
		}
		l = append(l, op)
	}
	return l
}

// someDisk is a disk that may be, with room of all sorts.
func someDisk(next func(int) int) api.Disk {
	safe, _, _ := tree.Run(api.Tree{}, someOps(next, api.Tree{}, 12, true))
	m := modelOf(api.Disk{Safe: safe})
	m.room = api.AnyRoom
	m.run(someOps(next, safe, 12, true), true)
	m.room = []int{api.AnyRoom, 0, 1, 2, 5, 50}[next(6)]
	return m.disk()
}

// P8.1 to P8.6: disks to which all sorts of things are done are what the second reading says.
func TestLawAll(t *testing.T) {
	next := numbers()
	counted := map[api.Errno]int{}
	for range 400 {
		d := someDisk(next)
		m := modelOf(d)
		held(t, d, &m)
		for range 12 {
			var e api.Errno
			switch next(6) {
			case 0:
				d, e = disk.Sync(d)
				m = model{trees: []api.Tree{m.now()}, room: m.room}
			case 1:
				keep, cut := next(len(m.wait)+1), next(5)
				d, e = disk.Crash(d, keep, cut)
				m = model{trees: []api.Tree{m.fall(keep, cut)}, room: api.AnyRoom}
				if room := []int{api.AnyRoom, 0, 3}[next(3)]; e == api.OK {
					held(t, d, &m)
					d.Room, m.room = room, room
				}
			default:
				l, free := someOps(next, m.now(), 6, next(5) > 0), next(3) == 0
				after, many, fault := disk.Run(d, l, free)
				if wantMany, want := m.run(l, free); many != wantMany || fault != want {
					t.Fatalf("Run(%v, %v, %v): %d %d, not %d %d", d, l, free, many, fault, wantMany, want)
				}
				d = after
				counted[fault]++
			}
			if e != api.OK {
				t.Fatal(e)
			}
			held(t, d, &m)
		}
	}
	for _, e := range []api.Errno{api.OK, api.ErrArg, api.ErrPath, api.ErrNone, api.ErrThere, api.ErrKind, api.ErrBusy, api.ErrRoom} {
		if counted[e] < 10 {
			t.Errorf("just %d of the runs came to %d", counted[e], e)
		}
	}
}

// passed tells whether left is one of the trees, or one of them with one file that has the first bytes of what it has in the next one.
func passed(trees []api.Tree, left api.Tree) bool {
	for n, now := range trees {
		if slices.Equal(now.Items, left.Items) {
			return true
		}
		for _, file := range left.Items {
			others := func(item api.Item) bool { return item.Path == file.Path }
			if n+1 == len(trees) || file.Kind != api.KFile || !slices.Equal(slices.DeleteFunc(slices.Clone(left.Items), others), slices.DeleteFunc(slices.Clone(now.Items), others)) {
				continue
			}
			if whole, _ := tree.Get(trees[n+1], file.Path); whole.Kind == api.KFile && strings.HasPrefix(whole.Data, file.Data) {
				return true
			}
		}
	}
	return false
}

// P8.5, P8.6: whatever is kept at a fall, the tree is one through which it went, but for one file; with all that waits kept nothing is lost.
func TestLawCrash(t *testing.T) {
	next := numbers()
	many := 0
	for range 300 {
		d := someDisk(next)
		m := modelOf(d)
		for keep := range len(d.Wait) + 1 {
			for _, cut := range []int{0, 1, 2, 3, 4, math.MaxInt} {
				got, e := disk.Crash(d, keep, cut)
				want := m.fall(keep, cut)
				if e != api.OK || !alike(got, api.Disk{Safe: want, Room: api.AnyRoom}) || disk.Check(got) != api.OK || !passed(m.trees, got.Safe) {
					t.Fatalf("Crash(%v, %d, %d): %v %d, not %v", d, keep, cut, got, e, want)
				}
				if now, _ := disk.Now(d); keep == len(d.Wait) && !tree.Same(now, got.Safe) {
					t.Fatalf("Crash(%v, %d, %d): %v", d, keep, cut, got)
				}
				if !tree.Same(want, m.trees[keep]) {
					many++
				}
			}
		}
	}
	if many < 500 {
		t.Errorf("just %d falls left a part", many)
	}
}

// P8.4, P8.6: behind Sync whatever is kept nothing is lost; Sync once more changes nothing; room stays.
func TestLawSync(t *testing.T) {
	next := numbers()
	for range 500 {
		d := someDisk(next)
		now, _ := disk.Now(d)
		safe, e := disk.Sync(d)
		if e != api.OK || !alike(safe, api.Disk{Safe: now, Room: d.Room}) || disk.Check(safe) != api.OK {
			t.Fatalf("Sync(%v): %v %d", d, safe, e)
		}
		if again, e := disk.Sync(safe); e != api.OK || !disk.Same(again, safe) {
			t.Fatalf("Sync(%v): %v %d", safe, again, e)
		}
		for _, cut := range []int{0, 1, 9} {
			if got, e := disk.Crash(safe, 0, cut); e != api.OK || !tree.Same(got.Safe, now) {
				t.Fatalf("Crash(%v, 0, %d): %v %d", safe, cut, got, e)
			}
		}
		if fresh, e := disk.New(now); e != api.OK || d.Room == api.AnyRoom && !disk.Same(fresh, safe) {
			t.Fatalf("New(%v): %v %d", now, fresh, e)
		}
	}
}

// P8.6: by parts it runs as at once.
func TestLawParts(t *testing.T) {
	next := numbers()
	for range 300 {
		d := someDisk(next)
		now, _ := disk.Now(d)
		l, free := someOps(next, now, 10, next(4) > 0), next(3) == 0
		want, wantMany, wantE := disk.Run(d, l, free)
		for at := range len(l) + 1 {
			part, many, e := disk.Run(d, l[:at], free)
			if e == api.OK {
				rest, more, f := disk.Run(part, l[at:], free)
				part, many, e = rest, many+more, f
			}
			if !disk.Same(part, want) || many != wantMany || e != wantE {
				t.Fatalf("Run(%v, %v, %v), cut at %d: %v %d %d, not %v %d %d", d, l, free, at, part, many, e, want, wantMany, wantE)
			}
		}
	}
}

// R1: no call panics, or goes on without end, at whatever it is given.
func TestRuleEnds(t *testing.T) {
	huge := churn(1 << 18)
	disks := append(bad(), good()...)
	disks = append(disks, api.Disk{Wait: huge}, api.Disk{Safe: api.Tree{Items: make([]api.Item, 1<<18)}}, api.Disk{Wait: make([]api.Op, 1<<18)}, on("", "", math.MaxInt), on("", "", math.MinInt))
	numbers := []int{0, 1, -1, 7, 8, api.MaxWait, api.MaxWait + 1, math.MaxInt, math.MinInt}
	for n, d := range disks {
		disk.New(d.Safe)
		disk.Check(d)
		disk.Same(d, disks[n/2])
		disk.Now(d)
		disk.Sync(d)
		for _, l := range [][]api.Op{nil, make([]api.Op, 3), huge, allOps()} {
			disk.Run(d, l, n%2 == 0)
		}
		for k, keep := range numbers {
			disk.Crash(d, keep, numbers[(n+k)%len(numbers)])
		}
	}
	many := 0
	disk.Run(api.Disk{Room: math.MaxInt}, huge, false)
	if _, many, _ = disk.Run(api.Disk{Room: api.AnyRoom}, huge, false); many != api.MaxWait {
		t.Error(many)
	}
}

// copied is the same disk in other memory.
func copied(d api.Disk) api.Disk {
	return api.Disk{Safe: api.Tree{Items: slices.Clone(d.Safe.Items)}, Wait: slices.Clone(d.Wait), Room: d.Room}
}

// roomy is a copy of the disk with room behind its lists' ends, in which something stands; and whole the disk that has that, too.
func roomy(d api.Disk) (in, whole api.Disk) {
	whole = copied(d)
	whole.Safe.Items = append(whole.Safe.Items, grown("mkdir /room, write /room/f 1, link /room/l f").Items...)
	whole.Wait = append(whole.Wait, ops("mkdir /room, write /room 1, append /room 2, unlink /room")...)
	return api.Disk{Safe: api.Tree{Items: whole.Safe.Items[:len(d.Safe.Items)]}, Wait: whole.Wait[:len(d.Wait)], Room: d.Room}, whole
}

// spoil writes over all that a disk has, and the room behind its lists' ends.
func spoil(d api.Disk) {
	for n := range cap(d.Safe.Items) {
		d.Safe.Items[:cap(d.Safe.Items)][n] = api.Item{Path: "/spoilt"}
	}
	for n := range cap(d.Wait) {
		d.Wait[:cap(d.Wait)][n] = api.Op{Path: "/spoilt"}
	}
}

// made are all disks and trees, as disks, that come of d by one call.
func made(d api.Disk, l []api.Op) []api.Disk {
	fresh, _ := disk.New(d.Safe)
	now, _ := disk.Now(d)
	safe, _ := disk.Sync(d)
	all := []api.Disk{fresh, {Safe: now}, safe}
	for n := range len(l) + 1 {
		paid, _, _ := disk.Run(d, l[:n], false)
		free, _, _ := disk.Run(d, l[:n], true)
		all = append(all, paid, free)
	}
	for keep := range min(len(d.Wait), 12) + 2 {
		for cut := range 5 {
			left, _ := disk.Crash(d, keep-1, cut-1)
			all = append(all, left)
		}
	}
	return all
}

// rules are disks at which it is tried whether what is handed in stays.
func rules() []api.Disk {
	next := numbers()
	l := append(good(), bad()[:60]...)
	for range 100 {
		l = append(l, someDisk(next))
	}
	return l
}

// R3: what is handed in stays as it is, the room behind a list's end, too; what is answered is new memory, that of no other answer, either.
func TestRuleMemory(t *testing.T) {
	next := numbers()
	for _, d := range rules() {
		now, _ := disk.Now(d)
		in, whole := roomy(d)
		run, wholeRun := roomy(api.Disk{Wait: someOps(next, now, 5, true)})
		ahead, aheadRun := copied(whole), copied(wholeRun)
		first, second := made(in, run.Wait), made(in, run.Wait)
		disk.Check(in)
		disk.Same(in, in)
		for _, op := range run.Wait {
			disk.Needs(op)
		}
		var copies []api.Disk
		for _, one := range second {
			copies = append(copies, copied(one))
		}
		for _, one := range first {
			spoil(one)
		}
		if !alike(whole, ahead) || !alike(wholeRun, aheadRun) {
			t.Fatalf("changed: %.300v, and with %v", d, run.Wait)
		}
		for n, one := range second {
			if !alike(one, copies[n]) {
				t.Fatalf("two answers of %.300v share memory: %.300v", d, one)
			}
		}
	}
}

// R3, R5: what was handed in is not kept: what was answered stays as it is, and the same lists with something else in them are asked anew.
func TestRuleNotKept(t *testing.T) {
	next := numbers()
	for _, d := range rules() {
		now, _ := disk.Now(d)
		l := someOps(next, now, 5, true)
		in, _ := roomy(d)
		run, _ := roomy(api.Disk{Wait: l})
		answers, wants := made(in, run.Wait), made(d, l)
		spoil(in)
		spoil(run)
		for n, got := range answers {
			if !alike(got, wants[n]) {
				t.Fatalf("kept of %.300v: %.300v, not %.300v", d, got, wants[n])
			}
		}
		if e := disk.Check(in); e != api.ErrDisk && len(d.Safe.Items)+len(d.Wait) > 0 {
			t.Fatalf("Check of what became of %.300v: %d", d, e)
		}
		copy(in.Safe.Items, d.Safe.Items)
		copy(in.Wait, d.Wait)
		copy(run.Wait, l)
		for n, got := range made(in, run.Wait) {
			if !alike(got, wants[n]) {
				t.Fatalf("asked anew of %.300v: %.300v, not %.300v", d, got, wants[n])
			}
		}
	}
}
