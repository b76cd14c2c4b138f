package journal_test

import (
	"fmt"
	"math"
	"slices"
	"strings"
	"testing"

	"puncheon/api"
	"puncheon/disk"
	"puncheon/journal"
	"puncheon/redo"
	"puncheon/tree"
)

// numbers answers a function that tells numbers below its argument, each time the same ones.
func numbers() func(below int) int {
	x := uint64(13)
	return func(below int) int {
		x = x*6364136223846793005 + 1442695040888963407
		return int((x >> 33) % uint64(below))
	}
}

// at are all rows of items at p, and none: a file, a link, and a directory with these beneath.
func at(p string, beneath ...[]api.Item) [][]api.Item {
	l := [][]api.Item{nil, {file(p, "")}, {file(p, "12")}, {link(p, "12")}}
	for _, items := range beneath {
		l = append(l, append([]api.Item{dir(p)}, items...))
	}
	return l
}

// small are trees of a few items.
func small() []api.Tree {
	var l []api.Tree
	for _, a := range at("/a", at("/a/b", nil, []api.Item{file("/a/b/c", "3")})...) {
		for _, b := range [][]api.Item{nil, {file("/a-", "4")}, {link("/a-", "4")}, {dir("/a-")}, {dir("/a-"), link("/a-/b", "5")}} {
			l = append(l, of(slices.Concat(a, b)...))
		}
	}
	return l
}

// big is a tree of some items, tried so often.
func big(next func(int) int, often int) api.Tree {
	now := api.Tree{}
	for range often {
		p := ""
		for n := range 1 + next(4) {
			p += "/" + []string{"a", "b", "a-", "0", "journal", "stage"}[next(4+min(2*n, 2))]
		}
		one := op([]string{"mkdir ", "mkdir ", "mkdir ", "write ", "link "}[next(5)] + p + []string{"", "", " 1", " 22", " " + signed(drop(p))}[next(5)])
		// What stands there already, has no place, or may not be, is left out.
		if after, e := tree.Do(now, one); e == api.OK && len(now.Items) < 20 {
			now = after
		}
	}
	return now
}

// falls are all trees that a fall behind these steps leaves, run on a disk on which now is safe, with that room; of what is on its way each number of bytes, if whole, or some.
func falls(t *testing.T, now api.Tree, room int, l []api.Step, whole bool) []api.Tree {
	t.Helper()
	d, many, e := journal.Run(api.Disk{Safe: now, Room: room}, l)
	if e != api.OK || many != len(l) {
		wrong(t, "Run(%v, %v): %v %v", now, l, many, e)
	}
	var all []api.Tree
	for keep := range len(d.Wait) + 1 {
		cuts := 0
		if keep < len(d.Wait) && (d.Wait[keep].Kind == api.OpWrite || d.Wait[keep].Kind == api.OpAppend) {
			cuts = len(d.Wait[keep].Data)
		}
		for cut := range cuts + 1 {
			if !whole && cut > 1 && cut < cuts-1 && cut != 7 && cut != cuts-8 {
				continue
			}
			left, e := disk.Crash(d, keep, cut)
			if e != api.OK {
				wrong(t, "Crash(%v, %v, %v): %v", d, keep, cut, e)
			}
			all = append(all, left.Safe)
		}
	}
	return all
}

// key is a text that tells a tree from all others here.
func key(now api.Tree) string {
	var s strings.Builder
	for _, item := range now.Items {
		s.WriteString(item.Path + "\x00" + string(rune('0'+item.Kind)) + item.Data + "\x01")
	}
	return s.String()
}

// ends goes through all trees that recovery, falling however often, leaves of these, and answers those to which it comes at last.
func ends(t *testing.T, from []api.Tree, whole bool) []api.Tree {
	t.Helper()
	seen, last := map[string]bool{}, map[string]bool{}
	var all []api.Tree
	for len(from) > 0 {
		now := from[len(from)-1]
		from = from[:len(from)-1]
		if seen[key(now)] {
			continue
		}
		seen[key(now)] = true
		l, e := journal.Recover(now)
		d, many, f := journal.Run(api.Disk{Safe: now}, l)
		if e != api.OK || f != api.OK || many != len(l) || len(d.Wait) != 0 {
			wrong(t, "Recover(%v): %v %v: run: %v %v", now, l, e, many, f)
		}
		if again, e := journal.Recover(d.Safe); len(again) != 0 || e != api.OK {
			wrong(t, "Recover(%v), once more: %v %v", now, again, e)
		}
		if !last[key(d.Safe)] {
			last[key(d.Safe)] = true
			all = append(all, d.Safe)
		}
		for n := range len(l) + 1 {
			// What is left behind fewer steps is left, too, where the last of them are not kept.
			if whole || n == len(l) || l[n].Sync {
				from = append(from, falls(t, now, 0, l[:n], whole)...)
			}
		}
	}
	return all
}

// comes holds all that P13.6 says of the way from a to b, but for room.
func comes(t *testing.T, a, b api.Tree, whole bool) {
	t.Helper()
	l, e := redo.Between(a, b)
	all, f := journal.Steps(a, l)
	if e != api.OK || f != api.OK {
		wrong(t, "from %v to %v: %v %v", a, b, e, f)
	}
	// Behind at most two steps, behind three, behind more.
	var sides [3][]api.Tree
	for n := range len(all) + 1 {
		side := min(max(n, 2), 4) - 2
		sides[side] = append(sides[side], falls(t, a, 2, all[:n], whole)...)
	}
	isEnd := func(now api.Tree, may ...api.Tree) bool {
		return slices.ContainsFunc(may, func(end api.Tree) bool { return slices.Equal(now.Items, end.Items) })
	}
	for side, may := range [][]api.Tree{{a}, {a, b}, {b}} {
		got := ends(t, sides[side], whole)
		for _, now := range got {
			if !isEnd(now, may...) {
				wrong(t, "from %v to %v, side %v: comes to %v", a, b, side, now)
			}
		}
		for _, end := range may {
			if !isEnd(end, got...) {
				wrong(t, "from %v to %v, side %v: comes never to %v", a, b, side, end)
			}
		}
	}
	d, many, e := journal.Run(api.Disk{Safe: a, Room: 2}, all)
	if !alike(d, api.Disk{Safe: b}) || many != len(all) || e != api.OK {
		wrong(t, "from %v to %v: %v %v %v", a, b, d, many, e)
	}
}

// P13.6: between small trees, all falls.
func TestLawFalls(t *testing.T) {
	all := small()
	for n, a := range all {
		for k, b := range all {
			comes(t, a, b, (n+k)%9 == 0)
		}
	}
}

// P13.6: between trees of more items, that have little in common, or much.
func TestLawFallsBig(t *testing.T) {
	next := numbers()
	for n := range 60 {
		a := big(next, 40+2*n)
		b := big(next, 40+2*n)
		comes(t, a, b, n == 0)
		l, _ := redo.Between(a, b)
		c, _, e := redo.Apply(a, l[:len(l)/2])
		if e != api.OK {
			t.Fatal(a, l, e)
		}
		comes(t, a, c, false)
		comes(t, c, a, false)
	}
}

// P13.6: between trees of just fewer than MaxItems items, falls behind some of the steps, of recovery, too.
func TestLawFallsFull(t *testing.T) {
	a, b := crowd(api.MaxItems-1), crowd(api.MaxItems-1)
	for n := range b.Items[1:] {
		switch n % 4 {
		case 0:
			b.Items[n+1].Data += "new"
		case 1:
			b.Items[n+1].Kind, b.Items[n+1].Data = api.KLink, "x"
		case 2:
			b.Items[n+1].Path += "-"
		}
	}
	next := numbers()
	for _, ends := range [][2]api.Tree{{a, b}, {{}, a}} {
		l, _ := redo.Between(ends[0], ends[1])
		all, e := journal.Steps(ends[0], l)
		if e != api.OK {
			t.Fatal(e)
		}
		for _, n := range []int{2, 3, 4, len(all) / 2, len(all) - 1} {
			now, l := ends[0], all[:n]
			for range 2 {
				d, many, e := journal.Run(api.Disk{Safe: now, Room: 2}, l)
				if e != api.OK || many != len(l) {
					wrong(t, "Run: %v %v", many, e)
				}
				left, _ := disk.Crash(d, next(len(d.Wait)+1), next(3))
				now = left.Safe
				l, e = journal.Recover(now)
				if e != api.OK {
					wrong(t, "Recover: %v", e)
				}
				l = l[:next(len(l)+1)]
			}
			l, _ = journal.Recover(now)
			d, _, e := journal.Run(api.Disk{Safe: now}, l)
			isA, isB := tree.Same(d.Safe, ends[0]), tree.Same(d.Safe, ends[1])
			if e != api.OK || len(d.Wait) != 0 || !isA && !isB || n < 3 && !isA || n > 3 && !isB {
				wrong(t, "behind %v of %v: %v, a %v, b %v", n, len(all), e, isA, isB)
			}
		}
	}
}

// P13.6: what is refused for want of room is refused in the first four steps; recovered, on the disk as it is or behind a fall, the tree is a.
func TestLawRoom(t *testing.T) {
	all := small()
	for n, a := range all {
		for k, b := range all {
			l, _ := redo.Between(a, b)
			steps, _ := journal.Steps(a, l)
			for room := range 4 {
				d, many, e := journal.Run(api.Disk{Safe: a, Room: room}, steps)
				if room > 1 {
					if !alike(d, api.Disk{Safe: b, Room: room - 2}) || many != len(steps) || e != api.OK {
						wrong(t, "from %v to %v with room %v: %v %v %v", a, b, room, d, many, e)
					}
					continue
				}
				if many != 2*room || e != api.ErrRoom {
					wrong(t, "from %v to %v with room %v: %v %v %v", a, b, room, d, many, e)
				}
				now, _ := disk.Now(d)
				back, e := journal.Recover(now)
				d, many, f := journal.Run(d, back)
				if !alike(d, api.Disk{Safe: a}) || e != api.OK || f != api.OK || many != len(back) {
					wrong(t, "from %v to %v with room %v, recovered: %v %v %v", a, b, room, d, many, f)
				}
				if (n+k)%20 == 0 {
					got := ends(t, falls(t, a, room, steps[:2*room], true), true)
					if len(got) != 1 || !slices.Equal(got[0].Items, a.Items) {
						wrong(t, "from %v to %v with room %v, fallen: %v", a, b, room, got)
					}
				}
			}
		}
	}
}

// P13.3, P13.6: with MaxItems items there is no room for a journal.
func TestLawNoItem(t *testing.T) {
	a := crowd(api.MaxItems)
	all, e := journal.Steps(a, row(drop("/d")))
	if e != api.OK || len(all) != 7+api.MaxItems {
		t.Fatal(len(all), e)
	}
	runs(t, api.Disk{Safe: a, Room: 2}, all, api.Disk{Safe: a, Room: 2}, 0, api.ErrFull)
}

// plainCommitted is the second reading of P13.2, of a tree that may be.
func plainCommitted(now api.Tree) ([]api.Redo, bool) {
	for _, item := range now.Items {
		body := item.Data[:max(0, strings.LastIndex(item.Data, "commit "))]
		if item.Path != "/journal" || item.Kind != 2 || item.Data != body+markOf(body) {
			continue
		}
		if l, e := redo.Decode(body); e == api.OK {
			return l, true
		}
	}
	return nil, false
}

// plainRecover is the second reading of P13.4, of a tree that may be.
func plainRecover(now api.Tree) ([]api.Step, api.Errno) {
	isThere := func(item api.Item) bool { return item.Path == "/journal" || item.Path == "/stage" }
	if !slices.ContainsFunc(now.Items, isThere) {
		return nil, api.OK
	}
	var all []api.Step
	goOn := func(r api.Redo) api.Errno {
		l, e := redo.Ops(now, r)
		all = append(all, free(l)...)
		now, _, _ = tree.Run(now, l)
		return e
	}
	if l, is := plainCommitted(now); is {
		for _, r := range l {
			if e := goOn(r); e != api.OK {
				return nil, e
			}
		}
		all = append(all, sync)
	}
	goOn(drop("/stage"))
	goOn(drop("/journal"))
	return append(all, sync), api.OK
}

// someRow is a row of a few redos that may be, some of which are stuck at most trees.
func someRow(next func(int) int) []api.Redo {
	var l []api.Redo
	paths := []string{"/a", "/a/b", "/b", "/journal", "/journal/a", "/stage", "/stage/b", "/stage/b/c"}
	for range next(6) {
		p, to := paths[next(len(paths))], paths[next(len(paths))]
		all := []api.Redo{put(dir(p)), put(file(p, "1")), put(link(p, "x")), drop(p), move(p, to)}
		if r := all[next(len(all))]; redo.Check(r) == api.OK {
			l = append(l, r)
		}
	}
	return l
}

// someDirty is a tree that has something at /journal, and at /stage, or not.
func someDirty(next func(int) int) api.Tree {
	for {
		now, _, e := redo.Apply(api.Tree{}, someRow(next))
		if e != api.OK {
			continue
		}
		data := signed(someRow(next)...)
		switch next(8) {
		case 0:
			data = data[:next(len(data)+1)]
		case 1:
			data = data[next(len(data)):]
		case 2:
			data += data
		case 3:
			at := next(len(data))
			data = data[:at] + string(rune(next(128))) + data[at+1:]
		}
		if next(6) > 0 {
			now, _, _ = redo.Apply(now, row(drop("/journal"), put(file("/journal", data))))
		}
		return now
	}
}

// P13.2, P13.4: trees of all sorts, held against the second reading.
func TestLawRecover(t *testing.T) {
	next := numbers()
	counted := map[string]int{}
	for range 20000 {
		now := someDirty(next)
		l, is := plainCommitted(now)
		says(t, now, l, is)
		want, wantE := plainRecover(now)
		got, e := journal.Recover(now)
		if !slices.Equal(got, want) || e != wantE {
			wrong(t, "Recover(%v): %v %v, not %v %v", now, got, e, want, wantE)
		}
		counted[fmt.Sprint(is, e, len(got) > 2)]++
	}
	for _, s := range []string{"true 0 true", "true 221 false", "false 0 true", "false 0 false"} {
		if counted[s] < 200 {
			t.Errorf("just %d were %s", counted[s], s)
		}
	}
}

// P13.3: trees and redos of all sorts, held against the second reading.
func TestLawSteps(t *testing.T) {
	next := numbers()
	counted := map[api.Errno]int{}
	for range 20000 {
		now, l := someDirty(next), someRow(next)
		if next(3) > 0 {
			now, _, _ = redo.Apply(now, row(drop("/journal")))
		}
		got, e := journal.Steps(now, l)
		counted[e]++
		after, all, wantE := redo.Apply(now, l)
		if _, is := tree.Get(now, "/journal"); is {
			wantE = api.ErrDirty
		}
		if wantE != api.OK {
			refused(t, now, wantE, l...)
			continue
		}
		if e != api.OK || !slices.Equal(got, written(l, all)) {
			wrong(t, "Steps(%v, %v): %v %v", now, l, got, e)
		}
		if _, is := tree.Get(after, "/journal"); !is && !strings.Contains(bodyOf(l...), "/journal") {
			runs(t, api.Disk{Safe: now, Room: 2}, got, api.Disk{Safe: after}, len(got), api.OK)
		}
	}
	for _, e := range []api.Errno{api.OK, api.ErrDirty, api.ErrStuck} {
		if counted[e] < 1000 {
			t.Errorf("just %d were %d", counted[e], e)
		}
	}
}

// plainRun is the second reading of P13.5, of a disk and steps that may be: step by step, each by its call of package disk.
func plainRun(d api.Disk, l []api.Step) (api.Disk, int, api.Errno) {
	for n, s := range l {
		var e api.Errno
		if s.Sync {
			d, e = disk.Sync(d)
		} else {
			d, _, e = disk.Run(d, []api.Op{s.Op}, s.Free)
		}
		if e != api.OK {
			return d, n, e
		}
	}
	return d, len(l), api.OK
}

// someSteps are at most so many steps that may be; most of them go on from the tree, if likely, and else as they come.
func someSteps(next func(int) int, now api.Tree, most int, likely bool) []api.Step {
	var l []api.Step
	for range next(most + 1) {
		if next(5) == 0 {
			l = append(l, sync)
			continue
		}
		var one api.Op
		for {
			p := []string{"/", "/a", "/a/b", "/a/b/c", "/b", "/journal"}[next(6)]
			kinds := []string{"mkdir P", "write P", "write P 1", "append P 56", "append P", "link P a", "move P /a", "move P /b", "unlink P", "rmdir P"}
			one = op(strings.ReplaceAll(kinds[next(len(kinds))], "P", p))
			after, e := tree.Do(now, one)
			if e == api.OK {
				now = after
			}
			if e == api.OK || !likely || next(30) == 0 {
				break
			}
		}
		l = append(l, api.Step{Op: one, Free: next(2) == 0})
	}
	return l
}

// someDisk is a disk that may be, with room of all sorts.
func someDisk(next func(int) int) api.Disk {
	d, _, _ := plainRun(api.Disk{Room: api.AnyRoom}, someSteps(next, api.Tree{}, 12, true))
	d.Room = []int{api.AnyRoom, api.AnyRoom, 0, 1, 2, 5, 50}[next(7)]
	return d
}

// P13.5: disks and steps of all sorts, held against the second reading; by parts they are run as at once.
func TestLawRun(t *testing.T) {
	next := numbers()
	counted := map[api.Errno]int{}
	for range 4000 {
		d := someDisk(next)
		now, _ := disk.Now(d)
		l := someSteps(next, now, 12, next(5) > 0)
		want, wantMany, wantE := plainRun(d, l)
		runs(t, d, l, want, wantMany, wantE)
		counted[wantE]++
		if disk.Check(want) != api.OK {
			wrong(t, "Run(%v, %v): no disk: %v", d, l, want)
		}
		cut := next(len(l) + 1)
		part, many, e := journal.Run(d, l[:cut])
		if e == api.OK {
			rest, more, f := journal.Run(part, l[cut:])
			part, many, e = rest, many+more, f
		}
		if !alike(part, want) || many != wantMany || e != wantE {
			wrong(t, "Run(%v, %v), cut at %v: %v %v %v, not %v %v %v", d, l, cut, part, many, e, want, wantMany, wantE)
		}
	}
	for _, e := range []api.Errno{api.OK, api.ErrArg, api.ErrNone, api.ErrThere, api.ErrKind, api.ErrBusy, api.ErrRoom} {
		if counted[e] < 30 {
			t.Errorf("just %d of the runs came to %d", counted[e], e)
		}
	}
}

// asked is what is asked in the tests of the rules: a tree, redos, a disk, steps.
type asked struct {
	now   api.Tree
	l     []api.Redo
	d     api.Disk
	steps []api.Step
}

func someAsked() []asked {
	all := []asked{{}, {now: crowd(20), l: row(drop("/d"), put(dir("/e"))), d: on("mkdir /a", 1), steps: nil}}
	for n, now := range badTrees()[:5] {
		all = append(all, asked{now, row(api.Redo{}), badDisks()[n], badSteps()[:2]}, asked{api.Tree{}, row(api.Redo{}), on("mkdir /a", 1), badSteps()[:2]})
	}
	next := numbers()
	for range 300 {
		d := someDisk(next)
		now, _ := disk.Now(d)
		x := asked{now: someDirty(next), l: someRow(next), d: d, steps: someSteps(next, now, 9, true)}
		if next(2) == 0 {
			x.now = now
		}
		all = append(all, x)
	}
	return all
}

// answered is all that the calls answer of what is asked.
type answered struct {
	marks           string
	committed       []api.Redo
	steps, recovery []api.Step
	d               api.Disk
	many            int
	errs            []any
}

func answers(x asked) answered {
	var a answered
	for _, s := range x.steps {
		a.marks += fmt.Sprint(journal.Check(s), journal.Mark(s.Op.Data))
	}
	l, is := journal.Committed(x.now)
	s, e := journal.Steps(x.now, x.l)
	r, f := journal.Recover(x.now)
	d, many, g := journal.Run(x.d, x.steps)
	return answered{a.marks, l, s, r, d, many, []any{is, e, f, g}}
}

// R5: each answer is the same in whatever order, and however often, it is asked.
func TestRuleOrder(t *testing.T) {
	all := someAsked()
	var first []string
	for _, x := range all {
		first = append(first, fmt.Sprint(answers(x)))
	}
	for n, want := range slices.Backward(first) {
		if got := fmt.Sprint(answers(all[n])); got != want {
			wrong(t, "%v: %v, not %v", all[n], got, want)
		}
	}
}

// R1: no call panics, or goes on without end, at whatever it is given.
func TestRuleEnds(t *testing.T) {
	text := bytes(1 << 20)
	huge := api.Redo{Kind: api.RePut, Item: api.Item{Path: text, Kind: math.MinInt, Data: text}, To: text}
	trees := append(badTrees(), api.Tree{Items: make([]api.Item, 1<<16)}, of(file("/journal", bytes(api.MaxFile))), api.Tree{Items: []api.Item{link("/journal", text), file("/stage", text)}}, crowd(api.MaxItems))
	for _, now := range trees {
		journal.Committed(now)
		journal.Recover(now)
		for _, l := range [][]api.Redo{nil, row(huge), make([]api.Redo, 1<<16), slices.Repeat(row(put(dir("/a"))), api.MaxRedos)} {
			journal.Steps(now, l)
		}
	}
	many := slices.Repeat(badSteps()[:100], 1<<10)
	disks := append(badDisks(), api.Disk{Wait: make([]api.Op, 1<<16)}, on("", math.MaxInt), on("", math.MinInt), api.Disk{Safe: crowd(api.MaxItems), Room: api.AnyRoom})
	for _, d := range disks {
		for _, l := range [][]api.Step{nil, many, many[:1], make([]api.Step, 1<<16), make([]api.Step, 3), churn(api.MaxSteps, "write /x 1, sync, sync"), churn(api.MaxSteps, "write /x 1, free append /x 2, unlink /x, sync")} {
			journal.Run(d, l)
		}
	}
	journal.Mark(text)
	journal.Check(api.Step{Op: api.Op{Kind: math.MaxInt, Path: text, To: text, Data: text}, Free: true, Sync: true})
}

// roomy is the same list in other memory, with room behind its end, in which others stand.
func roomy[T any](l []T, others ...T) []T {
	return append(append(make([]T, 0, len(l)+len(others)), l...), others...)[:len(l)]
}

// spoil writes over all of a list, and the room behind its end.
func spoil[T any](l []T, by T) {
	for n := range l[:cap(l)] {
		l[:cap(l)][n] = by
	}
}

// roomyAsked is the same in other memory, each list with room behind its end.
func roomyAsked(x asked) asked {
	return asked{
		api.Tree{Items: roomy(x.now.Items, dir("/room"), dir("/a"))}, roomy(x.l, drop("/room"), drop("/a")),
		api.Disk{Safe: api.Tree{Items: roomy(x.d.Safe.Items, dir("/room"), dir("/a"))}, Wait: roomy(x.d.Wait, op("mkdir /room"), op("rmdir /room")), Room: x.d.Room},
		roomy(x.steps, sync, sync),
	}
}

// wholeOf are all lists that are asked about, up to the ends of their room.
func wholeOf(x asked) string {
	return fmt.Sprint(x.now.Items[:cap(x.now.Items)], x.l[:cap(x.l)], x.d.Safe.Items[:cap(x.d.Safe.Items)], x.d.Wait[:cap(x.d.Wait)], x.d.Room, x.steps[:cap(x.steps)])
}

func spoilAsked(x asked) {
	spoil(x.now.Items, dir("/spoilt"))
	spoil(x.l, put(dir("/spoilt")))
	spoil(x.d.Safe.Items, dir("/spoilt"))
	spoil(x.d.Wait, op("mkdir /spoilt"))
	spoil(x.steps, steps("mkdir /spoilt")[0])
}

func spoilAnswered(a answered) {
	spoil(a.committed, put(dir("/spoilt")))
	spoil(a.steps, steps("mkdir /spoilt")[0])
	spoil(a.recovery, steps("mkdir /spoilt")[0])
	spoil(a.d.Safe.Items, dir("/spoilt"))
	spoil(a.d.Wait, op("mkdir /spoilt"))
}

// R3: what is handed in stays as it is, the room behind a list's end, too, and is not kept; what is answered is new memory.
func TestRuleMemory(t *testing.T) {
	for _, x := range someAsked() {
		want := fmt.Sprint(answers(x))
		in := roomyAsked(x)
		ahead := wholeOf(in)
		first, second := answers(in), answers(in)
		if got := fmt.Sprint(second); got != want || wholeOf(in) != ahead {
			wrong(t, "%v: %v, not %v; became %v", x, got, want, wholeOf(in))
		}
		spoilAnswered(first)
		if got := fmt.Sprint(second); got != want || wholeOf(in) != ahead {
			wrong(t, "%v: answers share memory: %v, not %v; became %v", x, got, want, wholeOf(in))
		}
		if got := fmt.Sprint(answers(in)); got != want {
			wrong(t, "%v: asked once more: %v, not %v", x, got, want)
		}
		spoilAsked(in)
		if got := fmt.Sprint(second); got != want {
			wrong(t, "%v: what is answered was handed in: %v, not %v", x, got, want)
		}
		other := asked{api.Tree{Items: slices.Clone(in.now.Items)}, slices.Clone(in.l), api.Disk{Safe: api.Tree{Items: slices.Clone(in.d.Safe.Items)}, Wait: slices.Clone(in.d.Wait), Room: in.d.Room}, slices.Clone(in.steps)}
		if got, want := fmt.Sprint(answers(in)), fmt.Sprint(answers(other)); got != want {
			wrong(t, "%v: asked anew: %v, not %v", x, got, want)
		}
	}
}
