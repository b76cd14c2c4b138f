package tree_test

import (
	"slices"
	"strings"
	"testing"

	"puncheon/api"
	"puncheon/path"
	"puncheon/tree"
)

// sorted answers the items in the order of their paths, found without the package that is tried.
func sorted(l []api.Item) []api.Item {
	l = slices.Clone(l)
	slices.SortFunc(l, func(a, b api.Item) int {
		return slices.Compare(strings.Split(a.Path, "/"), strings.Split(b.Path, "/"))
	})
	return l
}

// model is a second reading of the chapter: what stands at which path, / among it.
type model map[string]api.Item

func modelOf(t api.Tree) model {
	m := model{"/": dir("/")}
	for _, item := range t.Items {
		m[item.Path] = item
	}
	return m
}

// items are those of the model's tree.
func (m model) items() []api.Item {
	var l []api.Item
	for p, item := range m {
		if p != "/" {
			l = append(l, item)
		}
	}
	return sorted(l)
}

// above is a path without its last name.
func above(p string) string {
	return p[:max(1, strings.LastIndexByte(p, '/'))]
}

// under tells whether the path p is under the path d.
func under(p, d string) bool {
	return p == d || d == "/" || strings.HasPrefix(p, d+"/")
}

// place is by which error the place of p is not open.
func (m model) place(p string) api.Errno {
	item, is := m[above(p)]
	if !is {
		return api.ErrNone
	}
	if item.Kind != api.KDir {
		return api.ErrKind
	}
	return api.OK
}

// first answers the first error there is.
func first(l ...api.Errno) api.Errno {
	for _, e := range l {
		if e != api.OK {
			return e
		}
	}
	return api.OK
}

// when is that error, if it holds.
func when(holds bool, e api.Errno) api.Errno {
	if holds {
		return e
	}
	return api.OK
}

// fault is by which error an operation that may be is refused.
func (m model) fault(op api.Op) api.Errno {
	item, is := m[op.Path]
	_, isTo := m[op.To]
	full := len(m)-1 == api.MaxItems
	none := when(!is, api.ErrNone)
	busy, deepest := op.Path == "/", 0
	for p := range m {
		if p != op.Path && under(p, op.Path) {
			busy = true
		}
		if under(p, op.Path) {
			deepest = max(deepest, strings.Count(p, "/")-strings.Count(op.Path, "/"))
		}
	}
	switch op.Kind {
	case api.OpMkdir, api.OpLink:
		return first(m.place(op.Path), when(is, api.ErrThere), when(full, api.ErrFull))
	case api.OpWrite:
		return first(m.place(op.Path), when(is && item.Kind != api.KFile, api.ErrKind), when(!is && full, api.ErrFull))
	case api.OpAppend:
		return first(none, when(item.Kind != api.KFile, api.ErrKind), when(len(item.Data+op.Data) > api.MaxFile, api.ErrLong))
	case api.OpMove:
		return first(none, when(op.Path == "/" || under(op.To, op.Path), api.ErrArg), m.place(op.To), when(isTo, api.ErrThere), when(strings.Count(op.To, "/")+deepest > api.MaxDepth, api.ErrPath))
	case api.OpUnlink:
		return first(none, when(item.Kind == api.KDir, api.ErrKind))
	}
	return first(none, when(item.Kind != api.KDir, api.ErrKind), when(busy, api.ErrBusy))
}

// do does an operation that may be, and is not refused.
func (m model) do(op api.Op) {
	switch op.Kind {
	case api.OpMkdir:
		m[op.Path] = dir(op.Path)
	case api.OpWrite:
		m[op.Path] = file(op.Path, op.Data)
	case api.OpAppend:
		m[op.Path] = file(op.Path, m[op.Path].Data+op.Data)
	case api.OpLink:
		m[op.Path] = link(op.Path, op.Data)
	case api.OpMove:
		for _, item := range m.items() {
			if under(item.Path, op.Path) {
				delete(m, item.Path)
				item.Path = op.To + strings.TrimPrefix(item.Path, op.Path)
				m[item.Path] = item
			}
		}
	default:
		delete(m, op.Path)
	}
}

// places are paths that lie close together.
var places = []string{"/", "/a", "/a/b", "/a/b/c", "/a.b", "/a.b/a", "/b"}

// allOps are operations of all kinds at all those places.
func allOps() []api.Op {
	var l []api.Op
	for _, p := range places {
		l = append(l, mkdir(p), write(p, ""), write(p, "1"), extend(p, "2"), symlink(p, "a"), unlink(p), rmdir(p))
		for _, to := range places {
			l = append(l, move(p, to))
		}
	}
	return l
}

// said is a tree as a text, by which it is told from all others.
func said(t api.Tree) string {
	var b strings.Builder
	for _, item := range t.Items {
		b.WriteString(item.Path + " " + string(rune('0'+item.Kind)) + item.Data + "\n")
	}
	return b.String()
}

// reached are trees to which operations lead, from the empty one on.
func reached(most int) []api.Tree {
	all := []api.Tree{{}}
	seen := map[string]int{"": 0}
	for at := 0; at < len(all) && len(all) < most; at++ {
		for _, op := range allOps() {
			after, e := tree.Do(all[at], op)
			if _, is := seen[said(after)]; e == api.OK && !is && len(said(after)) < 60 {
				seen[said(after)] = len(all)
				all = append(all, after)
			}
		}
	}
	return all
}

// P6.4, P6.6: each operation, at each of many trees, does what the second reading does; what comes may be.
func TestLawDo(t *testing.T) {
	for _, now := range reached(3000) {
		ahead := slices.Clone(now.Items)
		for _, op := range allOps() {
			m := modelOf(now)
			want := m.fault(op)
			after, e := tree.Do(now, op)
			if e != want {
				t.Fatalf("Do(%v, %v): %d, not %d", now, op, e, want)
			}
			if e == api.OK {
				m.do(op)
			}
			if e == api.OK && !slices.Equal(after.Items, m.items()) || e != api.OK && len(after.Items) != 0 {
				t.Fatalf("Do(%v, %v): %v", now, op, after)
			}
			if tree.Check(after) != api.OK || !slices.Equal(now.Items, ahead) {
				t.Fatalf("Do(%v, %v): %v is no tree, or that ahead was changed", now, op, after)
			}
		}
	}
}

// P6.6: an operation changes nothing but at Path and beneath, and at To and beneath.
func TestLawElsewhere(t *testing.T) {
	elsewhere := func(now api.Tree, op api.Op) []api.Item {
		return slices.DeleteFunc(slices.Clone(now.Items), func(item api.Item) bool {
			return path.Under(item.Path, op.Path) || path.Under(item.Path, op.To)
		})
	}
	for _, now := range reached(1500) {
		for _, op := range allOps() {
			if after, e := tree.Do(now, op); e == api.OK && !slices.Equal(elsewhere(now, op), elsewhere(after, op)) {
				t.Fatalf("Do(%v, %v): %v", now, op, after)
			}
		}
	}
}

// back answers what takes an operation back that was done, if one operation alone does.
func back(now api.Tree, op api.Op) (api.Op, bool) {
	switch _, is := tree.Get(now, op.Path); {
	case op.Kind == api.OpMkdir:
		return rmdir(op.Path), true
	case op.Kind == api.OpLink, op.Kind == api.OpWrite && !is:
		return unlink(op.Path), true
	case op.Kind == api.OpMove:
		return move(op.To, op.Path), true
	}
	return api.Op{}, false
}

// P6.6: what was made, and is gone again, was never there; what was moved, and moved back, is as it was.
func TestLawBack(t *testing.T) {
	for _, now := range append(reached(1500), some(), of(besides()...), many(api.MaxItems-1)) {
		for _, op := range append(allOps(), move("/c", "/a/q"), move("/d", "/b"), move("/d", "/dd"), mkdir("/a/q"), write("/d/q", "1")) {
			after, e := tree.Do(now, op)
			undo, is := back(now, op)
			if e != api.OK || !is {
				continue
			}
			again, e := tree.Do(after, undo)
			if e != api.OK || !tree.Same(again, now) {
				t.Fatalf("of %.300v: %v, and back: %.300v %d", now, op, again, e)
			}
		}
	}
}

// P6.2, P6.6: what is asked of many trees is what the second reading says; Kids are the names of what is Below, one deep.
func TestLawAsk(t *testing.T) {
	for _, now := range append(reached(1500), good()[:20]...) {
		m := modelOf(now)
		for _, p := range append(slices.Clone(places), "/a/b/c/d", "/c", "/a.", "/x/x", "/a/c", "/b/c", "/0") {
			var below []api.Item
			var kids []string
			for _, item := range m.items() {
				if item.Path != p && under(item.Path, p) {
					below = append(below, item)
				}
				if above(item.Path) == p {
					kids = append(kids, item.Path[strings.LastIndexByte(item.Path, '/')+1:])
				}
			}
			if got, is := tree.Get(now, p); is != (m[p] != api.Item{}) || got != m[p] {
				t.Fatalf("Get(%.300v, %s): %v %v", now, p, got, is)
			}
			if got := tree.Below(now, p); !slices.Equal(got, below) {
				t.Fatalf("Below(%.300v, %s): %v", now, p, got)
			}
			if got := tree.Kids(now, p); !slices.Equal(got, kids) {
				t.Fatalf("Kids(%.300v, %s): %v", now, p, got)
			}
			oneDeep := []string{}
			for _, item := range tree.Below(now, p) {
				if l, _ := path.Beneath(item.Path, p); len(l) == 1 {
					oneDeep = append(oneDeep, l[0])
				}
			}
			if !slices.Equal(oneDeep, kids) {
				t.Fatalf("Kids, and Below one deep, of %s in %.300v: %v", p, now, oneDeep)
			}
		}
	}
}

// orders are all orders of so many numbers.
func orders(n int) [][]int {
	if n == 0 {
		return [][]int{nil}
	}
	var all [][]int
	for _, l := range orders(n - 1) {
		for at := range n {
			all = append(all, slices.Insert(slices.Clone(l), at, n-1))
		}
	}
	return all
}

// P6.1, P6.6: a tree is Of its items, in any order.
func TestLawOf(t *testing.T) {
	for _, now := range reached(400) {
		for _, order := range orders(len(now.Items)) {
			var l []api.Item
			for _, n := range order {
				l = append(l, now.Items[n])
			}
			if got, e := tree.Of(l); e != api.OK || !tree.Same(got, now) {
				t.Fatalf("Of(%v): %v %d", l, got, e)
			}
			if e := tree.Check(of(l...)); (e == api.OK) != slices.IsSorted(order) {
				t.Fatalf("Check(%v): %d", l, e)
			}
		}
	}
}

// valid is Check of the second reading: item by item, and each with each.
func valid(l []api.Item) bool {
	kinds := map[string]int{"/": api.KDir}
	for n, item := range l {
		_, is := kinds[item.Path]
		if is || path.Check(item.Path) != api.OK || n > 0 && !slices.Equal(sorted(l[n-1:n+1]), l[n-1:n+1]) {
			return false
		}
		kinds[item.Path] = item.Kind
	}
	for _, item := range l {
		if kinds[above(item.Path)] != api.KDir {
			return false
		}
	}
	return true
}

// P6.1: Check, and Of, of all lists of at most three items of a few.
func TestLawCheck(t *testing.T) {
	var some []api.Item
	for _, p := range []string{"/", "/a", "/a/b", "/a/b/c", "/a.b", "/a.b/c", "a"} {
		some = append(some, dir(p), file(p, ""), link(p, "x"))
	}
	lists := [][]api.Item{nil}
	for at := 0; at < len(lists); at++ {
		l := lists[at]
		if got := tree.Check(of(l...)); (got == api.OK) != valid(l) || got != api.OK && got != api.ErrTree {
			t.Fatalf("Check(%v): %d", l, got)
		}
		made, e := tree.Of(l)
		if (e == api.OK) != valid(sorted(l)) || e == api.OK && !slices.Equal(made.Items, sorted(l)) {
			t.Fatalf("Of(%v): %v %d", l, made, e)
		}
		if len(l) == 3 {
			continue
		}
		for _, item := range some {
			lists = append(lists, append(slices.Clone(l), item))
		}
	}
}

// numbers answers numbers that go up and down, the same ones each time.
func numbers() func(n int) int {
	state := uint64(12345)
	return func(n int) int {
		state = state*6364136223846793005 + 1442695040888963407
		return int(state>>33) % n
	}
}

// P6.5, P6.6: Run is Do, one behind the other, up to the first error, by parts as at once; and what the second reading does.
func TestLawRun(t *testing.T) {
	next := numbers()
	ops := allOps()
	for range 300 {
		var l []api.Op
		for range next(40) {
			l = append(l, ops[next(len(ops))])
		}
		// From the start, without all that is refused, so that most go through.
		m := modelOf(api.Tree{})
		fine := slices.DeleteFunc(slices.Clone(l), func(op api.Op) bool {
			refused := m.fault(op) != api.OK
			if !refused {
				m.do(op)
			}
			return refused
		})
		after, many, e := tree.Run(api.Tree{}, fine)
		if e != api.OK || many != len(fine) || !slices.Equal(after.Items, m.items()) {
			t.Fatalf("Run(%v): %v %d %d", fine, after, many, e)
		}
		part := next(len(fine) + 1)
		half, _, _ := tree.Run(api.Tree{}, fine[:part])
		if rest, many, e := tree.Run(half, fine[part:]); e != api.OK || many != len(fine)-part || !tree.Same(rest, after) {
			t.Fatalf("Run by parts of %v: %v %d %d", fine, rest, many, e)
		}
		now, done, fault := api.Tree{}, 0, api.OK
		for _, op := range l {
			more, e := tree.Do(now, op)
			if fault = e; e != api.OK {
				break
			}
			now, done = more, done+1
		}
		run(t, api.Tree{}, l, now, done, fault)
	}
}

// R1: no call panics, or goes on without end, at whatever it is given.
func TestRuleEnds(t *testing.T) {
	trees := append(bad(), good()...)
	trees = append(trees, of(make([]api.Item, 1<<16)...), of(file(strings.Repeat("/a", 1<<18), bytes(1<<22)), file(strings.Repeat("/", 1<<20), "")))
	paths := append(badPaths(), "/", "/a", "/a/b", strings.Repeat("/a", 1<<18), strings.Repeat("a", 1<<20))
	ops := slices.Concat(argOps(), longOps(), allOps(), pathOps()[:40])
	for _, now := range trees {
		tree.Check(now)
		tree.Same(now, now)
		tree.Of(now.Items)
		tree.Run(now, ops[:10])
		for _, p := range paths {
			tree.Get(now, p)
			tree.Below(now, p)
			tree.Kids(now, p)
		}
	}
	for _, kind := range append(slices.Clone(noKinds), 1, 2, 3, 4, 5, 6, 7) {
		for _, p := range paths {
			for _, to := range []string{"", "/", "/a", "/a/b", p} {
				op := api.Op{Kind: kind, Path: p, To: to}
				tree.CheckOp(op)
				tree.Do(of(dir("/a")), op)
			}
		}
	}
}

// roomy answers the items with room behind their end, in which something stands.
func roomy(l []api.Item) []api.Item {
	return append(slices.Clone(l), file("/room", "1"), link("/room", "2"), dir("/room"), dir("/room"))[:len(l)]
}

// R3: what is handed in stays as it is, the room behind a list's end, too, and is not kept.
func TestRuleHandedIn(t *testing.T) {
	shuffled := besides()
	slices.Reverse(shuffled)
	for _, l := range [][]api.Item{some().Items, shuffled, {}, {dir("/a")}, lost()[0], many(api.MaxItems).Items} {
		in := roomy(l)
		whole := slices.Clone(in[:len(in)+4])
		for _, op := range append(allOps(), move("/a", "/q"), unlink("/a/f"), unlink("/x"), rmdir("/a.b"), write("/x", "new"), extend("/x", "new"), mkdir("/0")) {
			tree.Do(of(in...), op)
			room := []api.Op{op, mkdir("/q"), mkdir("/q/q"), mkdir("/q"), unlink("/room")}
			tree.Run(of(in...), room[:2])
			if !slices.Equal(room, []api.Op{op, mkdir("/q"), mkdir("/q/q"), mkdir("/q"), unlink("/room")}) {
				t.Fatalf("Run has changed the operations: %v", room)
			}
		}
		tree.Check(of(in...))
		tree.Same(of(in...), of(in...))
		tree.Of(in)
		tree.Get(of(in...), "/a")
		tree.Below(of(in...), "/")
		tree.Kids(of(in...), "/a")
		if !slices.Equal(in[:len(in)+4], whole) {
			t.Fatalf("changed: %.300v", in[:len(in)+4])
		}
	}
}

// R3: what is answered is new memory, also where it is what was handed in.
func TestRuleNewMemory(t *testing.T) {
	in := roomy(some().Items)
	whole := slices.Clone(in[:len(in)+4])
	spoil := func(named string, l []api.Item) {
		t.Helper()
		l = l[:cap(l)]
		for n := range l {
			l[n] = link("/spoilt", "1")
		}
		if !slices.Equal(in[:len(in)+4], whole) {
			t.Fatalf("%s shares with what was handed in", named)
		}
	}
	made, _ := tree.Of(in)
	spoil("Of", made.Items)
	for _, d := range []string{"/", "/a", "/c", "/c/d"} {
		spoil("Below", tree.Below(of(in...), d))
	}
	for _, l := range [][]api.Op{nil, {mkdir("/a")}, {unlink("/x")}, {write("/x", "")}, {extend("/x", "")}, {mkdir("/0")}, {mkdir("/zz")}, {move("/c", "/q")}, {rmdir("/a.b")}, {unlink("/x"), mkdir("/a")}} {
		after, _, _ := tree.Run(of(in...), l)
		spoil("Run", after.Items)
		if len(l) == 1 {
			after, _ := tree.Do(of(in...), l[0])
			spoil("Do", after.Items)
		}
	}
	names := tree.Kids(of(in...), "/c")
	names = names[:cap(names)]
	for n := range names {
		names[n] = "spoilt"
	}
	if again := tree.Kids(of(in...), "/c"); !slices.Equal(again, []string{"d", "d.e"}) || !slices.Equal(in[:len(in)+4], whole) {
		t.Fatalf("Kids: %q", again)
	}
}

// R3: what was answered stays as it is, whatever becomes of what was handed in.
func TestRuleNotKept(t *testing.T) {
	in := slices.Clone(some().Items)
	made, _ := tree.Of(in)
	below := tree.Below(of(in...), "/c")
	names := tree.Kids(of(in...), "/")
	after, _ := tree.Do(of(in...), write("/x", "4"))
	ran, _, _ := tree.Run(of(in...), nil)
	for n := range in {
		in[n] = link("/spoilt", "1")
	}
	if !tree.Same(made, some()) || !tree.Same(after, some()) || !tree.Same(ran, some()) {
		t.Errorf("kept: %v %v %v", made, after, ran)
	}
	if !slices.Equal(below, some().Items[5:9]) || !slices.Equal(names, []string{"a", "a.b", "c", "l", "x"}) {
		t.Errorf("kept: %v %q", below, names)
	}
	// A tree from which another one was made is as it was, and so is each of two that were made of it.
	one, _ := tree.Do(some(), unlink("/x"))
	other, _ := tree.Do(one, mkdir("/y"))
	third, _ := tree.Do(one, mkdir("/z"))
	if !tree.Same(one, without("/x")) || !tree.Same(other, change(without("/x"), nil, []api.Item{dir("/y")})) || !tree.Same(third, change(without("/x"), nil, []api.Item{dir("/z")})) {
		t.Errorf("shared: %v %v %v", one, other, third)
	}
}
