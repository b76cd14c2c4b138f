package disk_test

import (
	"math"
	"slices"
	"strconv"
	"strings"
	"testing"

	"puncheon/api"
	"puncheon/disk"
	"puncheon/tree"
)

// ops reads operations: each is a word for its kind, its path, and what else it has, if anything.
func ops(s string) []api.Op {
	kinds := map[string]int{"mkdir": api.OpMkdir, "write": api.OpWrite, "append": api.OpAppend, "link": api.OpLink, "move": api.OpMove, "unlink": api.OpUnlink, "rmdir": api.OpRmdir}
	var l []api.Op
	for said := range strings.SplitSeq(s, ", ") {
		if said == "" {
			continue
		}
		words := append(strings.Split(said, " "), "")
		op := api.Op{Kind: kinds[words[0]], Path: words[1], Data: words[2]}
		if op.Kind == api.OpMove {
			op.To, op.Data = op.Data, ""
		}
		l = append(l, op)
	}
	return l
}

// grown is the tree behind these operations, from the empty one on.
func grown(s string) api.Tree {
	t, _, e := tree.Run(api.Tree{}, ops(s))
	if e != api.OK {
		panic(s)
	}
	return t
}

// on is a disk: what made the tree that is safe, what waits, and the room.
func on(safe, wait string, room int) api.Disk {
	return api.Disk{Safe: grown(safe), Wait: ops(wait), Room: room}
}

// bytes is a text of n bytes.
func bytes(n int) string {
	return strings.Repeat("\x00", n)
}

// churn are n operations, of which each may be behind those ahead: /x comes and goes.
func churn(n int) []api.Op {
	var l []api.Op
	for len(l) < n {
		l = append(l, ops("mkdir /x, rmdir /x")...)
	}
	return l[:n]
}

// crowd is a tree of MaxItems items.
func crowd() api.Tree {
	t := grown("mkdir /d")
	for n := range api.MaxItems - 1 {
		t.Items = append(t.Items, api.Item{Path: "/d/" + strconv.Itoa(10000+n), Kind: api.KFile})
	}
	return t
}

// alike tells whether two disks are the same, without the package that is tried.
func alike(a, b api.Disk) bool {
	return slices.Equal(a.Safe.Items, b.Safe.Items) && slices.Equal(a.Wait, b.Wait) && a.Room == b.Room
}

const (
	someSafe = "mkdir /a, write /a/f 12, mkdir /e"
	// Each kind is among them, and each hangs on those ahead.
	someWait = "mkdir /b, write /b/f 1, append /b/f 23, link /b/l f, move /b /c, unlink /c/l, rmdir /e"
)

// good are disks that may be.
func good() []api.Disk {
	l := []api.Disk{{}, {Safe: crowd()}, {Safe: crowd(), Wait: ops("unlink /d/10000, mkdir /e"), Room: 7}, {Wait: churn(api.MaxWait)}, {Wait: churn(api.MaxWait - 1), Room: api.AnyRoom}}
	for _, room := range []int{api.AnyRoom, 0, 1, 2, api.MaxWait, api.MaxWait + 1, math.MaxInt} {
		l = append(l, on("", "", room), on(someSafe, "", room), on(someSafe, someWait, room), on("", "mkdir /a, write /a/f, write /a/f 1, append /a/f", room))
	}
	return l
}

// badTrees are trees that may not be.
func badTrees() []api.Tree {
	long := grown("write /a")
	long.Items[0].Data = bytes(api.MaxFile + 1)
	more := crowd()
	more.Items = append(more.Items, api.Item{Path: "/e", Kind: api.KDir})
	l := []api.Tree{long, more}
	for _, items := range [][]api.Item{
		{{}}, {{Path: "/a"}}, {{Path: "/a", Kind: 4}}, {{Path: "/", Kind: api.KDir}}, {{Path: "a", Kind: api.KDir}}, {{Path: "/a/b", Kind: api.KDir}},
		{{Path: "/a", Kind: api.KDir, Data: "1"}}, {{Path: "/a", Kind: api.KLink}}, {{Path: "/a", Kind: api.KFile}, {Path: "/a/b", Kind: api.KFile}},
		{{Path: "/b", Kind: api.KDir}, {Path: "/a", Kind: api.KDir}}, {{Path: "/a", Kind: api.KDir}, {Path: "/a", Kind: api.KDir}}, {{Path: "/a", Kind: api.KDir}, {}},
	} {
		l = append(l, api.Tree{Items: items})
	}
	return l
}

// wrongOps are operations that have an error at whatever place of someWait, behind what makes someSafe, each with that error.
func wrongOps() map[api.Errno][]api.Op {
	return map[api.Errno][]api.Op{
		api.ErrArg:   append(ops("link /q, move /a /a/q, move / /q"), api.Op{}, api.Op{Kind: 8, Path: "/q"}, api.Op{Kind: -1, Path: "/q"}, api.Op{Kind: api.OpMkdir, Path: "/q", Data: "1"}, api.Op{Kind: api.OpWrite, Path: "/q", To: "/r"}),
		api.ErrPath:  append(ops("mkdir q, write /q/ 1, append /Q 1, link //q x, move /a q, unlink q, rmdir ."), api.Op{Kind: api.OpMkdir}, api.Op{Kind: api.OpMove, Path: "/a"}),
		api.ErrLong:  {{Kind: api.OpWrite, Path: "/q", Data: bytes(api.MaxFile + 1)}, {Kind: api.OpAppend, Path: "/a/f", Data: bytes(api.MaxFile - 1)}, {Kind: api.OpLink, Path: "/q", Data: bytes(api.MaxLong + 1)}},
		api.ErrNone:  ops("mkdir /q/q, write /q/q 1, append /q 1, link /q/q x, move /q /r, unlink /q, rmdir /q"),
		api.ErrThere: ops("mkdir /a, mkdir /, link /a/f x, move /a/f /a"),
		api.ErrKind:  ops("mkdir /a/f/q, write /a 1, write / 1, append /a 1, link /a/f/q x, unlink /a, rmdir /a/f"),
		api.ErrBusy:  ops("rmdir /a, rmdir /"),
	}
}

// bad are disks that may not be.
func bad() []api.Disk {
	l := []api.Disk{{Wait: churn(api.MaxWait + 1)}, {Wait: churn(api.MaxWait + 2), Room: api.AnyRoom}, {Safe: crowd(), Wait: ops("mkdir /e")}, {Safe: crowd(), Wait: ops("write /d/10000 1, write /d/new")}}
	for _, room := range []int{-2, -3, math.MinInt} {
		l = append(l, on("", "", room), on(someSafe, someWait, room))
	}
	for _, t := range badTrees() {
		for _, room := range []int{api.AnyRoom, 0, 5} {
			l = append(l, api.Disk{Safe: t, Room: room}, api.Disk{Safe: t, Wait: ops("mkdir /q"), Room: room})
		}
	}
	for _, wrong := range wrongOps() {
		for n := range len(ops(someWait)) + 1 {
			for _, op := range wrong {
				l = append(l, api.Disk{Safe: grown(someSafe), Wait: slices.Insert(ops(someWait), n, op), Room: n - 1})
			}
		}
	}
	// Each is fine but for its place.
	for _, wait := range []string{"mkdir /a/b", "write /a/f 1, mkdir /a", "mkdir /a, mkdir /a", "mkdir /a, rmdir /a, rmdir /a", "mkdir /a, move /a /b, mkdir /a/c", "append /f 1, write /f 1", "write /f 1, unlink /f, append /f 1"} {
		l = append(l, on("", wait, api.AnyRoom))
	}
	return l
}

// P8.1: New.
func TestNew(t *testing.T) {
	for _, now := range []api.Tree{{}, {Items: []api.Item{}}, grown(someSafe), grown("link /l x, mkdir /m"), crowd()} {
		if d, e := disk.New(now); e != api.OK || !alike(d, api.Disk{Safe: now, Room: api.AnyRoom}) {
			t.Errorf("New(%.100v): %.200v %d", now, d, e)
		}
	}
	for _, now := range badTrees() {
		if d, e := disk.New(now); e != api.ErrTree || !alike(d, api.Disk{}) {
			t.Errorf("New(%.100v): %.200v %d", now, d, e)
		}
	}
}

// P8.1: Check.
func TestCheck(t *testing.T) {
	for _, d := range good() {
		if e := disk.Check(d); e != api.OK {
			t.Errorf("Check(%.300v): %d", d, e)
		}
	}
	for _, d := range bad() {
		if e := disk.Check(d); e != api.ErrDisk {
			t.Errorf("Check(%.300v): %d", d, e)
		}
	}
}

// P8.1: Same, of disks that may be, and that may not be: each two differ.
func TestSame(t *testing.T) {
	all := []api.Disk{
		on(someSafe, someWait, 3), on(someSafe, someWait, 4), on(someSafe, someWait, 0), on(someSafe, someWait, api.AnyRoom), on(someSafe, someWait, -2),
		on("", "", 0), on("", "", api.AnyRoom), on("mkdir /a", "", 0), on("", "mkdir /a", 0), on("mkdir /a", "mkdir /a", 0), on("mkdir /b", "", 0), on("write /a", "", 0), on("write /a 1", "", 0), on("mkdir /a, mkdir /b", "", 0),
		on("", "mkdir /a, mkdir /b", 0), on("", "mkdir /b, mkdir /a", 0), on("", "mkdir /a, mkdir /a", 0), on("", "write /a", 0), on("", "write /a 1", 0), on("", "write /a 2", 0), on("", "append /a 1", 0), on("", "link /a 1", 0), on("", "link /b 1", 0), on("", "move /a /b", 0), on("", "move /a /c", 0),
		{Wait: churn(api.MaxWait)}, {Wait: churn(api.MaxWait + 1)},
	}
	for _, now := range badTrees() {
		all = append(all, api.Disk{Safe: now})
	}
	for n, a := range all {
		for k, b := range all {
			b.Safe.Items, b.Wait = slices.Clone(b.Safe.Items), slices.Clone(b.Wait)
			if got := disk.Same(a, b); got != (n == k) {
				t.Errorf("Same(%.200v, %.200v): %v", a, b, got)
			}
		}
	}
	nothing := api.Disk{Safe: api.Tree{Items: make([]api.Item, 0, 2)}, Wait: make([]api.Op, 0, 2)}
	if !disk.Same(nothing, api.Disk{}) || !disk.Same(api.Disk{}, nothing) {
		t.Error("no Same of nil lists and empty ones")
	}
}

// P8.2: Now.
func TestNow(t *testing.T) {
	for _, c := range []struct {
		d    api.Disk
		want string
	}{
		{api.Disk{}, ""},
		{on("", "", 5), ""},
		{on(someSafe, "", 0), someSafe},
		{on(someSafe, someWait, 0), "mkdir /a, write /a/f 12, mkdir /c, write /c/f 123"},
		{on(someSafe, someWait, api.AnyRoom), "mkdir /a, write /a/f 12, mkdir /c, write /c/f 123"},
		{on(someSafe, "write /a/f 3, append /a/f 4", 1), "mkdir /a, write /a/f 34, mkdir /e"},
		{on("mkdir /a", "rmdir /a", 0), ""},
		{on("mkdir /a, write /a/f 1", "move /a /b, mkdir /a, move /b/f /a/f", 0), "mkdir /a, write /a/f 1, mkdir /b"},
		{api.Disk{Wait: churn(api.MaxWait)}, ""},
		{api.Disk{Wait: churn(api.MaxWait - 1)}, "mkdir /x"},
	} {
		if now, e := disk.Now(c.d); e != api.OK || !tree.Same(now, grown(c.want)) {
			t.Errorf("Now(%.300v): %.300v %d", c.d, now, e)
		}
	}
}

// P8.2: Needs, whether or not the operation may be.
func TestNeeds(t *testing.T) {
	needs := map[int]bool{api.OpMkdir: true, api.OpWrite: true, api.OpAppend: true, api.OpLink: true}
	for _, kind := range []int{api.OpMkdir, api.OpWrite, api.OpAppend, api.OpLink, api.OpMove, api.OpUnlink, api.OpRmdir, 0, 8, 9, -1, -4, math.MinInt, math.MaxInt} {
		for _, op := range []api.Op{{}, {Path: "/a"}, {Path: "/a", Data: "1"}, {Path: "/a", To: "/b"}, {Path: "a", To: "b", Data: "1"}} {
			op.Kind = kind
			if got := disk.Needs(op); got != needs[kind] {
				t.Errorf("Needs(%v): %v", op, got)
			}
		}
	}
}

// runs runs operations, and tells what is otherwise than it has to be.
func runs(t *testing.T, d api.Disk, l []api.Op, free bool, want api.Disk, wantMany int, wantE api.Errno) {
	t.Helper()
	after, many, e := disk.Run(d, l, free)
	if many != wantMany || e != wantE || !alike(after, want) {
		t.Errorf("Run(%.300v, %.300v, %v): %.300v %d %d, not %.300v %d %d", d, l, free, after, many, e, want, wantMany, wantE)
	}
}

// with is the disk with these operations behind what waits, and that room.
func with(d api.Disk, l []api.Op, room int) api.Disk {
	return api.Disk{Safe: d.Safe, Wait: slices.Concat(d.Wait, l), Room: room}
}

// P8.3: each kind of operation, with room and without, free and not.
func TestRunKinds(t *testing.T) {
	needy := ops("mkdir /q, write /q, write /q 1, write /a/f 3, write /a/f, append /a/f 34, append /a/f, append /c/f 1, link /q f, link /c/q ..")
	others := ops("move /a /q, move /a/f /q, move /c /a/c, unlink /a/f, unlink /c/f")
	for _, room := range []int{api.AnyRoom, 0, 1, 2, 1000, math.MaxInt} {
		d := on(someSafe, someWait, room)
		for _, op := range needy {
			l := []api.Op{op}
			runs(t, d, l, true, with(d, l, room), 1, api.OK)
			switch room {
			case api.AnyRoom:
				runs(t, d, l, false, with(d, l, api.AnyRoom), 1, api.OK)
			case 0:
				runs(t, d, l, false, d, 0, api.ErrRoom)
			default:
				runs(t, d, l, false, with(d, l, room-1), 1, api.OK)
			}
		}
		for _, op := range append(others, ops("rmdir /e")...) {
			d := on(someSafe, "mkdir /c, write /c/f 1", room)
			for _, free := range []bool{true, false} {
				runs(t, d, []api.Op{op}, free, with(d, []api.Op{op}, room), 1, api.OK)
			}
		}
	}
}

// P8.3: several operations, of which the first, one in the middle, the last, or none has an error.
func TestRun(t *testing.T) {
	fine := ops(someWait)
	for _, ahead := range []string{"", "mkdir /w, write /w/f 1"} {
		d := on(someSafe, ahead, api.AnyRoom)
		for n := range len(fine) + 1 {
			runs(t, d, fine[:n], false, with(d, fine[:n], api.AnyRoom), n, api.OK)
			for e, wrong := range wrongOps() {
				for _, op := range wrong {
					for _, free := range []bool{true, false} {
						runs(t, d, slices.Insert(slices.Clone(fine), n, op), free, with(d, fine[:n], api.AnyRoom), n, e)
					}
				}
			}
		}
	}
	for _, d := range good() {
		for _, free := range []bool{true, false} {
			runs(t, d, nil, free, d, 0, api.OK)
			runs(t, d, []api.Op{}, free, d, 0, api.OK)
		}
	}
	full := api.Disk{Safe: crowd(), Room: 9}
	runs(t, full, ops("unlink /d/10000, mkdir /e, mkdir /f"), false, with(full, ops("unlink /d/10000, mkdir /e"), 8), 2, api.ErrFull)
}

// P8.3: room that comes down to 0 on the way.
func TestRunRoom(t *testing.T) {
	l := ops("mkdir /b, rmdir /e, write /b/f 1, move /b /c, append /c/f 2, unlink /c/f, link /c/l f, unlink /c/l, move /c /d")
	for _, c := range []struct{ room, many, left int }{{0, 0, 0}, {1, 2, 0}, {2, 4, 0}, {3, 6, 0}, {4, 9, 0}, {5, 9, 1}, {api.AnyRoom, 9, api.AnyRoom}} {
		e := api.ErrRoom
		if c.many == len(l) {
			e = api.OK
		}
		d := on(someSafe, "", c.room)
		runs(t, d, l, false, with(d, l[:c.many], c.left), c.many, e)
		runs(t, d, l, true, with(d, l, c.room), len(l), api.OK)
	}
	// What is taken away makes no room.
	d := on("mkdir /a", "", 0)
	runs(t, d, ops("rmdir /a, mkdir /a"), false, with(d, ops("rmdir /a"), 0), 1, api.ErrRoom)
}

// P8.3: just MaxWait operations that wait, and fewer.
func TestRunFull(t *testing.T) {
	for _, room := range []int{api.AnyRoom, 0, 1, api.MaxWait} {
		full := api.Disk{Wait: churn(api.MaxWait), Room: room}
		wrong := wrongOps()
		for _, free := range []bool{true, false} {
			for _, l := range append([][]api.Op{ops("mkdir /a"), ops("write /a 1, mkdir /b"), ops("move /a /b"), ops("unlink /a"), ops("rmdir /a")}, wrong[api.ErrArg], wrong[api.ErrPath], wrong[api.ErrLong], wrong[api.ErrNone]) {
				runs(t, full, l, free, full, 0, api.ErrFull)
			}
		}
	}
	less := api.Disk{Wait: churn(api.MaxWait - 2), Room: 1}
	runs(t, less, ops("mkdir /a, rmdir /a"), false, with(less, ops("mkdir /a, rmdir /a"), 0), 2, api.OK)
	runs(t, less, ops("mkdir /a, rmdir /a, mkdir /a"), false, with(less, ops("mkdir /a, rmdir /a"), 0), 2, api.ErrFull)
	runs(t, less, ops("mkdir /a, rmdir /a, mkdir q"), true, with(less, ops("mkdir /a, rmdir /a"), 1), 2, api.ErrFull)
	runs(t, less, ops("mkdir /a, mkdir /b, mkdir /c"), false, with(less, ops("mkdir /a"), 0), 1, api.ErrRoom)
	runs(t, less, ops("mkdir /a, mkdir /a, mkdir /c"), true, with(less, ops("mkdir /a"), 1), 1, api.ErrThere)
	runs(t, less, ops("mkdir /a, unlink /a, mkdir /c"), true, with(less, ops("mkdir /a"), 1), 1, api.ErrKind)

	long := churn(api.MaxWait + 2)
	runs(t, api.Disk{Room: 1}, long, true, api.Disk{Wait: long[:api.MaxWait], Room: 1}, api.MaxWait, api.ErrFull)
	runs(t, api.Disk{Room: api.MaxWait}, long, false, api.Disk{Wait: long[:api.MaxWait], Room: api.MaxWait / 2}, api.MaxWait, api.ErrFull)
	runs(t, api.Disk{Room: api.MaxWait / 2}, long[:api.MaxWait], false, api.Disk{Wait: long[:api.MaxWait]}, api.MaxWait, api.OK)
	runs(t, api.Disk{Room: api.MaxWait/2 - 1}, long, false, api.Disk{Wait: long[:api.MaxWait-2]}, api.MaxWait-2, api.ErrRoom)
	for at, e := range map[int]api.Errno{api.MaxWait - 1: api.ErrPath, api.MaxWait: api.ErrFull} {
		runs(t, api.Disk{Room: api.AnyRoom}, slices.Insert(slices.Clone(long), at, ops("mkdir q")...), false, api.Disk{Wait: long[:at], Room: api.AnyRoom}, at, e)
	}
}

// P8.3: ErrRoom goes ahead of what Do says, of operations that need room alone.
func TestRunRoomFirst(t *testing.T) {
	for e, wrong := range wrongOps() {
		for _, op := range wrong {
			first := e
			if slices.Contains([]int{api.OpMkdir, api.OpWrite, api.OpAppend, api.OpLink}, op.Kind) {
				first = api.ErrRoom
			}
			d := on(someSafe, "", 0)
			runs(t, d, []api.Op{op}, false, d, 0, first)
			runs(t, d, []api.Op{op}, true, d, 0, e)
			runs(t, on(someSafe, "", 1), append(ops("mkdir /b"), op), false, with(d, ops("mkdir /b"), 0), 1, first)
			runs(t, on(someSafe, "", 1), append(ops("mkdir /b"), op), true, with(d, ops("mkdir /b"), 1), 1, e)
			runs(t, on(someSafe, "", 2), append(ops("mkdir /b"), op), false, with(d, ops("mkdir /b"), 1), 1, e)
		}
	}
}

// P8.4: Sync.
func TestSync(t *testing.T) {
	for _, room := range []int{api.AnyRoom, 0, 1, 7, math.MaxInt} {
		for _, c := range []struct{ safe, wait, want string }{
			{"", "", ""},
			{someSafe, "", someSafe},
			{"", someSafe, someSafe},
			{someSafe, someWait, "mkdir /a, write /a/f 12, mkdir /c, write /c/f 123"},
			{"mkdir /a", "rmdir /a", ""},
		} {
			d, e := disk.Sync(on(c.safe, c.wait, room))
			if e != api.OK || !alike(d, on(c.want, "", room)) {
				t.Errorf("Sync of %s and %s: %v %d", c.safe, c.wait, d, e)
			}
			if again, e := disk.Sync(d); e != api.OK || !alike(again, d) {
				t.Errorf("Sync once more: %v %d", again, e)
			}
		}
	}
	if d, e := disk.Sync(api.Disk{Wait: churn(api.MaxWait - 1), Room: 4}); e != api.OK || !alike(d, on("mkdir /x", "", 4)) {
		t.Errorf("Sync of all that may wait: %v %d", d, e)
	}
}

// falls lets a disk fall, and tells what is otherwise than it has to be.
func falls(t *testing.T, d api.Disk, keep, cut int, want string) {
	t.Helper()
	if got, e := disk.Crash(d, keep, cut); e != api.OK || !alike(got, on(want, "", api.AnyRoom)) {
		t.Errorf("Crash(%.300v, %d, %d): %.300v %d, not %s", d, keep, cut, got, e, want)
	}
}

// P8.5: how many operations are kept, none of the next one.
func TestCrashKeep(t *testing.T) {
	behind := []string{
		someSafe, someSafe + ", mkdir /b", someSafe + ", mkdir /b, write /b/f 1", someSafe + ", mkdir /b, write /b/f 123", someSafe + ", mkdir /b, write /b/f 123, link /b/l f",
		someSafe + ", mkdir /c, write /c/f 123, link /c/l f", someSafe + ", mkdir /c, write /c/f 123", "mkdir /a, write /a/f 12, mkdir /c, write /c/f 123",
	}
	for _, room := range []int{api.AnyRoom, 0, 1, 9} {
		d := on(someSafe, someWait, room)
		for keep, want := range behind {
			falls(t, d, keep, 0, want)
		}
		for _, cut := range []int{1, 2, 100, math.MaxInt} {
			falls(t, d, len(d.Wait), cut, behind[len(d.Wait)])
		}
		falls(t, on(someSafe, "", room), 0, 0, someSafe)
		falls(t, on(someSafe, "", room), 0, 5, someSafe)
		falls(t, on("", "", room), 0, 1, "")
	}
	falls(t, api.Disk{Wait: churn(api.MaxWait)}, api.MaxWait, 0, "")
	falls(t, api.Disk{Wait: churn(api.MaxWait)}, api.MaxWait-1, 3, "mkdir /x")
}

// P8.5: how much of the next operation is left.
func TestCrashCut(t *testing.T) {
	const rest = "mkdir /a, mkdir /e, mkdir /b"
	for next, left := range map[string][]string{
		"write /g 345":    {"write /a/f 12", "write /a/f 12, write /g 3", "write /a/f 12, write /g 34", "write /a/f 12, write /g 345", "write /a/f 12, write /g 345"},
		"write /b/g 3":    {"write /a/f 12", "write /a/f 12, write /b/g 3", "write /a/f 12, write /b/g 3"},
		"write /g":        {"write /a/f 12", "write /a/f 12, write /g", "write /a/f 12, write /g"},
		"write /a/f 345":  {"write /a/f 12", "write /a/f 3", "write /a/f 34", "write /a/f 345", "write /a/f 345"},
		"write /a/f":      {"write /a/f 12", "write /a/f", "write /a/f"},
		"append /a/f 345": {"write /a/f 12", "write /a/f 123", "write /a/f 1234", "write /a/f 12345", "write /a/f 12345"},
		"append /a/f":     {"write /a/f 12", "write /a/f 12", "write /a/f 12"},
		"mkdir /g":        {"write /a/f 12", "write /a/f 12", "write /a/f 12"},
		"link /g 345":     {"write /a/f 12", "write /a/f 12", "write /a/f 12", "write /a/f 12", "write /a/f 12"},
		"move /a/f /g":    {"write /a/f 12", "write /a/f 12", "write /a/f 12"},
		"unlink /a/f":     {"write /a/f 12", "write /a/f 12", "write /a/f 12"},
		"rmdir /b":        {"write /a/f 12", "write /a/f 12", "write /a/f 12"},
	} {
		for _, behind := range []string{"", ", mkdir /h", ", write /h 67"} {
			d := on(someSafe, "mkdir /b, "+next+behind, 1)
			for cut, made := range left {
				falls(t, d, 1, cut, rest+", "+made)
			}
			falls(t, d, 1, math.MaxInt, rest+", "+left[len(left)-1])
			falls(t, d, 0, 3, someSafe)
		}
	}
}

// P8.5: bytes of a long file.
func TestCrashLong(t *testing.T) {
	half := strings.Repeat("a", api.MaxFile/2)
	d := api.Disk{Safe: grown("write /f 1"), Wait: []api.Op{{Kind: api.OpWrite, Path: "/f", Data: half}, {Kind: api.OpAppend, Path: "/f", Data: half}}}
	for _, c := range [][3]int{{0, 1, 1}, {0, 100, 100}, {0, len(half) - 1, len(half) - 1}, {0, len(half), len(half)}, {0, len(half) + 1, len(half)}, {1, 0, len(half)}, {1, 1, len(half) + 1}, {1, len(half) - 1, 2*len(half) - 1}, {1, len(half) + 1, 2 * len(half)}, {2, 0, 2 * len(half)}} {
		falls(t, d, c[0], c[1], "write /f "+strings.Repeat("a", c[2]))
	}
}

// P8.5: ErrArg.
func TestCrashArg(t *testing.T) {
	for _, d := range []api.Disk{{}, on(someSafe, "", 3), on(someSafe, someWait, api.AnyRoom), on(someSafe, "write /g 1", 0)} {
		many := len(d.Wait)
		for _, c := range [][2]int{{-1, 0}, {-1, 5}, {-1, -1}, {math.MinInt, 0}, {many + 1, 0}, {many + 1, 5}, {many + 1, -1}, {math.MaxInt, 0}, {0, -1}, {many, -1}, {0, math.MinInt}} {
			if got, e := disk.Crash(d, c[0], c[1]); e != api.ErrArg || !alike(got, api.Disk{}) {
				t.Errorf("Crash(%v, %d, %d): %v %d", d, c[0], c[1], got, e)
			}
		}
	}
}

// ErrDisk goes ahead of all else, with nothing beside it.
func TestErrDisk(t *testing.T) {
	for _, d := range bad() {
		if now, e := disk.Now(d); e != api.ErrDisk || len(now.Items) != 0 {
			t.Errorf("Now(%.300v): %.300v %d", d, now, e)
		}
		for _, l := range [][]api.Op{nil, {}, ops("mkdir /q"), ops("mkdir q"), {{}}} {
			runs(t, d, l, true, api.Disk{}, 0, api.ErrDisk)
			runs(t, d, l, false, api.Disk{}, 0, api.ErrDisk)
		}
		if got, e := disk.Sync(d); e != api.ErrDisk || !alike(got, api.Disk{}) {
			t.Errorf("Sync(%.300v): %.300v %d", d, got, e)
		}
		for _, c := range [][2]int{{0, 0}, {0, 1}, {len(d.Wait), 0}, {-1, 0}, {len(d.Wait) + 1, 0}, {0, -1}, {-1, -1}} {
			if got, e := disk.Crash(d, c[0], c[1]); e != api.ErrDisk || !alike(got, api.Disk{}) {
				t.Errorf("Crash(%.300v, %d, %d): %.300v %d", d, c[0], c[1], got, e)
			}
		}
	}
}

// The chapter's examples, row by row.
func TestExamples(t *testing.T) {
	empty, e := disk.New(api.Tree{})
	if e != api.OK {
		t.Fatal(e)
	}
	l := []api.Op{{Kind: api.OpMkdir, Path: "/a"}, {Kind: api.OpWrite, Path: "/a/f", Data: "\x01\x02\x03"}, {Kind: api.OpMkdir, Path: "/b/c"}}
	runs(t, empty, l, false, api.Disk{Wait: l[:2], Room: api.AnyRoom}, 2, api.ErrNone)
	d, _, _ := disk.Run(empty, l, false)
	falls(t, d, 1, 2, "mkdir /a, write /a/f \x01\x02")
	falls(t, d, 1, 0, "mkdir /a")
	falls(t, d, 2, 9, "mkdir /a, write /a/f \x01\x02\x03")
	if _, e := disk.Crash(d, 3, 0); e != api.ErrArg {
		t.Errorf("Crash(3, 0): %d", e)
	}
	safe, e := disk.Sync(d)
	if e != api.OK {
		t.Errorf("Sync: %d", e)
	}
	falls(t, safe, 0, 0, "mkdir /a, write /a/f \x01\x02\x03")
	small := api.Disk{Room: 1}
	runs(t, small, ops("mkdir /x, mkdir /y"), true, api.Disk{Wait: ops("mkdir /x, mkdir /y"), Room: 1}, 2, api.OK)
	runs(t, small, ops("mkdir /x, mkdir /y"), false, api.Disk{Wait: ops("mkdir /x")}, 1, api.ErrRoom)
}
