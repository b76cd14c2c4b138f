package journal_test

import (
	"crypto/sha256"
	"fmt"
	"math"
	"slices"
	"strconv"
	"strings"
	"testing"

	"puncheon/api"
	"puncheon/disk"
	"puncheon/journal"
	"puncheon/redo"
	"puncheon/tree"
)

func dir(p string) api.Item        { return api.Item{Path: p, Kind: api.KDir} }
func file(p, data string) api.Item { return api.Item{Path: p, Kind: api.KFile, Data: data} }
func link(p, says string) api.Item { return api.Item{Path: p, Kind: api.KLink, Data: says} }

// of is the tree of items, in whatever order they come.
func of(l ...api.Item) api.Tree {
	now, e := tree.Of(l)
	if e != api.OK {
		panic(fmt.Sprint(l))
	}
	return now
}

func put(item api.Item) api.Redo   { return api.Redo{Kind: api.RePut, Item: item} }
func drop(p string) api.Redo       { return api.Redo{Kind: api.ReDrop, Item: api.Item{Path: p}} }
func move(p, to string) api.Redo   { return api.Redo{Kind: api.ReMove, Item: api.Item{Path: p}, To: to} }
func row(l ...api.Redo) []api.Redo { return l }

// sync is the step that is one.
var sync = api.Step{Sync: true}

// op reads an operation: a word for its kind, its path, and what else it has, if anything.
func op(s string) api.Op {
	kinds := map[string]int{"mkdir": api.OpMkdir, "write": api.OpWrite, "append": api.OpAppend, "link": api.OpLink, "move": api.OpMove, "unlink": api.OpUnlink, "rmdir": api.OpRmdir}
	words := append(strings.SplitN(s, " ", 3), "", "")
	op := api.Op{Kind: kinds[words[0]], Path: words[1], Data: words[2]}
	if op.Kind == api.OpMove {
		op.To, op.Data = op.Data, ""
	}
	return op
}

// steps reads steps: each is the word sync; or an operation, free standing ahead of it if it is.
func steps(s string) []api.Step {
	var l []api.Step
	for said := range strings.SplitSeq(s, ", ") {
		rest, free := strings.CutPrefix(said, "free ")
		switch said {
		case "":
		case "sync":
			l = append(l, sync)
		default:
			l = append(l, api.Step{Op: op(rest), Free: free})
		}
	}
	return l
}

// ops reads the operations of steps.
func ops(s string) []api.Op {
	var l []api.Op
	for _, step := range steps(s) {
		l = append(l, step.Op)
	}
	return l
}

// free are the steps that do operations, free.
func free(l []api.Op) []api.Step {
	var all []api.Step
	for _, op := range l {
		all = append(all, api.Step{Op: op, Free: true})
	}
	return all
}

// grown is the tree behind operations, from the empty one on.
func grown(s string) api.Tree {
	t, _, e := tree.Run(api.Tree{}, ops(s))
	if e != api.OK {
		panic(s)
	}
	return t
}

// on is a disk on which the tree behind operations is safe, with that room.
func on(safe string, room int) api.Disk {
	return api.Disk{Safe: grown(safe), Room: room}
}

// wrong tells what is otherwise than it has to be, each thing cut short.
func wrong(t *testing.T, format string, l ...any) {
	t.Helper()
	for n := range l {
		s := fmt.Sprint(l[n])
		l[n] = strings.ToValidUTF8(s[:min(len(s), 600)], "?")
	}
	t.Errorf(format, l...)
}

// bytes is a text of n bytes.
func bytes(n int) string {
	return strings.Repeat("\x00", n)
}

// crowd is a tree of so many items.
func crowd(many int) api.Tree {
	l := []api.Item{dir("/d")}
	for n := range many - 1 {
		l = append(l, file("/d/"+strconv.Itoa(10000+n), strconv.Itoa(n)))
	}
	return api.Tree{Items: l}
}

// badTrees are trees that may not be.
func badTrees() []api.Tree {
	l := []api.Tree{crowd(api.MaxItems + 1)}
	for _, items := range [][]api.Item{
		{{}}, {dir("/")}, {dir("a")}, {{Path: "/a"}}, {{Path: "/a", Kind: 4}}, {{Path: "/a", Kind: api.KDir, Data: "1"}}, {link("/a", "")}, {file("/a", bytes(api.MaxFile+1))},
		{dir("/a/b")}, {file("/a", ""), file("/a/b", "")}, {dir("/b"), dir("/a")}, {dir("/a"), dir("/a")}, {dir("/a"), {}},
		{file(api.JournalPath, signed()), dir("/a")}, {file(api.JournalPath, signed()), {}}, {dir("/a/b"), file(api.JournalPath, signed())}, {dir(api.StagePath), dir(api.JournalPath)}, {file(api.JournalPath, bytes(api.MaxFile+1))},
	} {
		l = append(l, api.Tree{Items: items})
	}
	return l
}

// badOps are operations that may not be.
func badOps() []api.Op {
	l := []api.Op{{}, {Path: "/a"}, {To: "/a"}, {Data: "1"}, op("mkdir"), op("mkdir a"), op("rmdir /a/"), op("write //a 1"), op("append /A 1"), op("link /a"), op("move /a"), op("move /a b"), op("move a /b"), op("unlink .")}
	for _, kind := range []int{-1, 8, 9, 1 << 32, 1<<32 + 1, math.MinInt, math.MaxInt} {
		l = append(l, api.Op{Kind: kind, Path: "/a"})
	}
	for _, s := range []string{"mkdir /a", "unlink /a", "rmdir /a", "move /a /b"} {
		with := op(s)
		with.Data = "1"
		l = append(l, with)
	}
	for _, s := range []string{"mkdir /a", "write /a 1", "append /a 1", "link /a 1", "unlink /a", "rmdir /a"} {
		with := op(s)
		with.To = "/b"
		l = append(l, with)
	}
	return append(l, op("write /a "+bytes(api.MaxFile+1)), op("append /a "+bytes(api.MaxFile+1)), op("link /a "+bytes(api.MaxLong+1)))
}

// goodOps are operations that may be.
func goodOps() []api.Op {
	var l []api.Op
	for p := range strings.SplitSeq("/ /a /a/b /journal /stage", " ") {
		for _, kind := range []string{"mkdir P", "write P", "write P 1", "write P " + bytes(api.MaxFile), "append P", "append P 12", "append P " + bytes(api.MaxFile), "link P a", "link P " + bytes(api.MaxLong), "move P /b", "move P P", "move P /", "unlink P", "rmdir P"} {
			l = append(l, op(strings.ReplaceAll(kind, "P", p)))
		}
	}
	return l
}

// badSteps are steps that may not be.
func badSteps() []api.Step {
	var l []api.Step
	for _, op := range badOps() {
		l = append(l, api.Step{Op: op}, api.Step{Op: op, Free: true}, api.Step{Op: op, Free: true, Sync: true})
		if op != (api.Op{}) {
			l = append(l, api.Step{Op: op, Sync: true})
		}
	}
	for _, op := range goodOps() {
		l = append(l, api.Step{Op: op, Sync: true}, api.Step{Op: op, Free: true, Sync: true})
	}
	return l
}

// P13.1: Check.
func TestCheck(t *testing.T) {
	good := []api.Step{sync}
	for _, op := range goodOps() {
		good = append(good, api.Step{Op: op}, api.Step{Op: op, Free: true})
	}
	for _, s := range good {
		if e := journal.Check(s); e != api.OK {
			wrong(t, "Check(%v): %v", s, e)
		}
	}
	for _, s := range badSteps() {
		if e := journal.Check(s); e != api.ErrStep {
			wrong(t, "Check(%v): %v", s, e)
		}
	}
	if e := journal.Check(api.Step{Free: true, Sync: true}); e != api.ErrStep {
		wrong(t, "Check of a Sync that is Free: %v", e)
	}
}

// markOf is a body's mark, without the packages that are tried.
func markOf(body string) string {
	return fmt.Sprintf("commit %x\n", sha256.Sum256([]byte(body)))
}

// bodyOf is the row of redos, without the packages that are tried.
func bodyOf(l ...api.Redo) string {
	s := ""
	number := func(n int) { s += strconv.Itoa(n) + ";" }
	text := func(x string) { s += strconv.Itoa(len(x)) + ":" + x }
	for _, r := range l {
		number(r.Kind)
		text(r.Item.Path)
		if r.Kind == api.RePut {
			number(r.Item.Kind)
			text(r.Item.Data)
		}
		if r.Kind == api.ReMove {
			text(r.To)
		}
	}
	return s
}

// signed is the body of redos, and its mark behind it.
func signed(l ...api.Redo) string {
	return bodyOf(l...) + markOf(bodyOf(l...))
}

// P13.1: Mark; that of the empty body, and of bodies of all lengths.
func TestMark(t *testing.T) {
	for _, c := range [][2]string{
		{"", "commit e3b0c44298fc1c149afbf4c8996fb92427ae41e4649b934ca495991b7852b855\n"},
		{"abc", "commit ba7816bf8f01cfea414140de5dae2223b00361a396177a9cb410ff61f20015ad\n"},
	} {
		if s := journal.Mark(c[0]); s != c[1] {
			wrong(t, "Mark(%v): %v, not %v", c[0], s, c[1])
		}
	}
	bodies := []string{bytes(api.MaxFile), bytes(api.MaxFile + 1), "\xff\x00\n", "commit ", markOf(""), "\n", bodyOf(drop("/a"))}
	for n := range 300 {
		bodies = append(bodies, strings.Repeat("1", n))
	}
	for _, body := range bodies {
		if s := journal.Mark(body); s != markOf(body) || len(s) != 72 {
			wrong(t, "Mark(%v): %v, not %v", body, s, markOf(body))
		}
	}
}

// someRows are rows of redos that may be.
func someRows() [][]api.Redo {
	return [][]api.Redo{
		nil, row(drop("/a")), row(put(dir("/x"))), row(put(file("/x", ""))), row(put(file("/x", "commit \n\x00\xff"))), row(put(link("/x", "/journal"))), row(move("/a", "/b")),
		row(drop("/a"), drop("/a")), row(drop("/journal")), row(drop("/stage")), row(put(file("/journal", "1"))), row(put(file("/x", signed(drop("/a"))))), row(put(file("/x", signed()))),
		row(put(dir("/a")), put(file("/a/f", "1")), put(link("/a/l", "f")), move("/a", "/b"), drop("/b/f"), drop("/c")),
		row(put(file("/x", strings.Repeat("1", 5000)))),
	}
}

// says asks to which redos a tree is committed, and tells what is otherwise than these.
func says(t *testing.T, now api.Tree, want []api.Redo, wantIs bool) {
	t.Helper()
	if l, is := journal.Committed(now); !slices.Equal(l, want) || is != wantIs {
		wrong(t, "Committed(%v): %v %v, not %v %v", now, l, is, want, wantIs)
	}
}

// no tells of texts that a tree of which they are the journal is committed to nothing.
func no(t *testing.T, l ...string) {
	t.Helper()
	for _, data := range l {
		says(t, of(file("/journal", data)), nil, false)
	}
}

// P13.2: trees that are committed.
func TestCommitted(t *testing.T) {
	for _, l := range someRows() {
		data := signed(l...)
		says(t, of(file("/journal", data)), l, true)
		says(t, of(file("/journal", data), dir("/a"), dir("/stage"), file("/stage/journal", signed()), link("/x", "/journal")), l, true)
		// What is at another path is none, and nor is what is no file.
		says(t, of(dir("/a"), file("/a/journal", data), file("/journal-", data), file("/journa", data), file("/stage", data)), nil, false)
		if len(data) <= api.MaxLong {
			says(t, of(link("/journal", data)), nil, false)
		}
		says(t, of(dir("/journal"), file("/journal/journal", data)), nil, false)
	}
	says(t, of(dir("/journal")), nil, false)
	says(t, api.Tree{}, nil, false)
	says(t, of(dir("/a")), nil, false)
	no(t, "", "1", "\n", "commit", "commit ", "commit \n", bytes(71), bytes(72), bytes(73), bytes(api.MaxFile))
	full := crowd(api.MaxItems - 1)
	says(t, of(append(full.Items, file("/journal", signed(drop("/d"))))...), row(drop("/d")), true)
}

// P13.2: a journal that is cut, has more, or another byte.
func TestCommittedCut(t *testing.T) {
	for _, l := range someRows()[:14] {
		data := signed(l...)
		for n := range data {
			no(t, data[:n], data[n+1:], data[:n]+data[n+1:])
			for _, c := range "\x00\n 01;:cfF\xff" {
				x := string([]byte{byte(c)})
				no(t, data[:n]+x+data[n:])
				if x != data[n:n+1] {
					no(t, data[:n]+x+data[n+1:])
				}
			}
		}
		for c := range 256 {
			no(t, data+string([]byte{byte(c)}))
		}
		body, mark := bodyOf(l...), markOf(bodyOf(l...))
		// A mark of another body; in other letters, or ends; twice.
		no(t, body+markOf(body+"x"), body+markOf(body+"2;2:/a"), "2;2:/a"+data, body+strings.ToUpper(mark), body+strings.TrimSuffix(mark, "\n")+"\r\n", body+strings.Replace(mark, " ", "  ", 1), body+mark+mark, body+" "+mark, body+"\n"+mark)
		if body != "" {
			no(t, body, mark, mark+body, body+markOf(""), body+markOf(body[1:]), body+markOf(body[:len(body)-1]), body+body+mark)
		}
	}
}

// P13.2: a body that is no row of redos that may be, with its mark behind it.
func TestCommittedNoRow(t *testing.T) {
	for _, body := range []string{
		"x", "\n", ";", "0;", "2;", "2;2:/", "2;1:/", "2;0:", "2;1:a", "2;2:/a ", "02;2:/a", "0;2:/a", "4;2:/a", "2;2:/a1;", "2;2:/a2:/b", "1;2:/a4;0:", "1;2:/a0;0:", "1;2:/a1;1:x", "1;2:/a3;0:", "3;2:/a2:/a", "3;2:/a4:/a/b", "3;2:/a1:/",
		bodyOf(put(api.Item{Path: "/a"})), bodyOf(move("/", "/a")), bodyOf(drop("/a"), drop("/")), bodyOf(drop(""), drop("/a")), bodyOf(put(link("/a", bytes(api.MaxLong+1)))),
	} {
		no(t, body+markOf(body), body)
	}
	// What is committed is no body.
	for _, l := range someRows() {
		no(t, signed(l...)+markOf(signed(l...)))
	}
	// Just as many as a row has at most, and one more.
	many := slices.Repeat(row(drop("/a")), api.MaxRedos)
	says(t, of(file("/journal", signed(many...))), many, true)
	no(t, signed(append(many, drop("/a"))...))
	// As many bytes as a file has at most.
	long := row(put(file("/x", bytes(api.MaxFile-72-len("1;2:/x2;524436:")))))
	data := signed(long...)
	if len(data) != api.MaxFile {
		t.Fatal(len(data))
	}
	says(t, of(file("/journal", data)), long, true)
}

// P13.2: trees that may not be.
func TestCommittedBad(t *testing.T) {
	for _, now := range badTrees() {
		says(t, now, nil, false)
	}
}

// written are the steps of redos of which the operations are these.
func written(l []api.Redo, all []api.Op) []api.Step {
	body := bodyOf(l...)
	want := []api.Step{{Op: op("write /journal " + body)}, sync, {Op: op("append /journal " + markOf(body))}, sync}
	want = append(want, free(all)...)
	return append(want, steps("sync, free unlink /journal, sync")...)
}

// goes asks for the steps of redos, and tells what is otherwise than that all are done by these operations.
func goes(t *testing.T, now api.Tree, all string, l ...api.Redo) {
	t.Helper()
	want := written(l, ops(all))
	got, e := journal.Steps(now, l)
	if e != api.OK || !slices.Equal(got, want) {
		wrong(t, "Steps(%v, %v): %v %v, not %v", now, l, got, e, want)
	}
	for _, s := range got {
		if journal.Check(s) != api.OK {
			wrong(t, "Steps(%v, %v): no step: %v", now, l, s)
		}
	}
}

// P13.3: the steps of redos.
func TestSteps(t *testing.T) {
	goes(t, api.Tree{}, "")
	goes(t, crowd(api.MaxItems), "")
	goes(t, api.Tree{}, "mkdir /x", put(dir("/x")))
	goes(t, api.Tree{}, "", drop("/x"))
	goes(t, of(dir("/x")), "", put(dir("/x")))
	goes(t, of(dir("/x")), "rmdir /x", drop("/x"))
	goes(t, of(dir("/x"), file("/x/f", "1")), "unlink /x/f, rmdir /x, link /x y", put(link("/x", "y")))
	goes(t, of(file("/x", "1")), "write /x 2", put(file("/x", "2")))
	goes(t, of(file("/x", "1")), "write /x", put(file("/x", "")))
	// Each at the tree that the one ahead has left.
	goes(t, of(file("/x", "1"), link("/y", "x")), "mkdir /a, move /x /a/x, unlink /y, move /a /y, write /y/z 3", put(dir("/a")), move("/x", "/a/x"), put(dir("/a")), move("/a", "/y"), move("/a", "/b"), put(file("/y/z", "3")))
	// What stands at /stage, and what is called alike, is none of a journal.
	goes(t, of(dir("/stage"), dir("/stage/keg"), file("/stage/journal", "1"), dir("/journal-"), file("/journals", "")), "mkdir /cellar, move /stage/keg /cellar/keg, unlink /stage/journal, rmdir /stage", put(dir("/cellar")), move("/stage/keg", "/cellar/keg"), drop("/stage"))
	// What redos come to is said of the tree ahead of the journal, also where they speak of /journal.
	goes(t, api.Tree{}, "", drop("/journal"))
	goes(t, api.Tree{}, "mkdir /journal", put(dir("/journal")))
	for n := range 20 {
		var l []api.Redo
		var all []string
		for k := range n {
			p := "/x" + strconv.Itoa(k)
			l, all = append(l, put(file(p, p))), append(all, "write "+p+" "+p)
		}
		goes(t, crowd(7), strings.Join(all, ", "), l...)
	}
}

// P13.3: as many redos as may be, and more steps than are run at once.
func TestStepsMany(t *testing.T) {
	var l []api.Redo
	var all []string
	for n := range api.MaxRedos {
		if n%2 == 0 {
			l, all = append(l, put(dir("/a"))), append(all, "mkdir /a")
		} else {
			l, all = append(l, drop("/a")), append(all, "rmdir /a")
		}
	}
	goes(t, api.Tree{}, strings.Join(all, ", "), l...)
}

// refused asks for the steps of redos, and tells what is otherwise than that error.
func refused(t *testing.T, now api.Tree, want api.Errno, l ...api.Redo) {
	t.Helper()
	if got, e := journal.Steps(now, l); len(got) != 0 || e != want {
		wrong(t, "Steps(%v, %v): %v %v, not %v", now, l, got, e, want)
	}
}

// long is a redo with which the body and the mark of these redos and it have so many bytes more together than a file may have.
func long(more int, l ...api.Redo) api.Redo {
	has := len(signed(append(l, put(file("/x", bytes(api.MaxFile-200))))...))
	return put(file("/x", bytes(api.MaxFile-200+api.MaxFile-has+more)))
}

// P13.3: errors, those ahead going ahead.
func TestStepsErrors(t *testing.T) {
	tooMany := make([]api.Redo, api.MaxRedos+1)
	bad := row(put(dir("/a")), api.Redo{}, put(dir("/b/c")), long(1))
	stuck := row(put(dir("/a")), put(dir("/b/c")), long(1))
	tooLong := row(put(dir("/a")), long(1))
	all := [][]api.Redo{tooMany, bad, stuck, tooLong, nil, row(drop("/a"))}
	for _, now := range badTrees() {
		for _, l := range all {
			refused(t, now, api.ErrTree, l...)
		}
	}
	for _, now := range []api.Tree{of(file("/journal", "")), of(file("/journal", "1")), of(dir("/journal")), of(dir("/journal"), dir("/journal/a")), of(link("/journal", "x")), of(dir("/a"), file("/journal", signed())), of(file("/journal", signed(drop("/a"))), dir("/stage"))} {
		for _, l := range all {
			refused(t, now, api.ErrDirty, l...)
		}
	}
	for _, now := range []api.Tree{{}, crowd(9), of(dir("/stage"), file("/stage/journal", ""))} {
		refused(t, now, api.ErrLong, tooMany...)
		refused(t, now, api.ErrLong, append(slices.Repeat(row(put(dir("/b/c"))), api.MaxRedos), api.Redo{})...)
		refused(t, now, api.ErrRedo, bad...)
		refused(t, now, api.ErrRedo, put(dir("/b/c")), long(1), drop("/"))
		refused(t, now, api.ErrRedo, make([]api.Redo, api.MaxRedos)...)
		refused(t, now, api.ErrStuck, stuck...)
		refused(t, now, api.ErrStuck, put(file("/b/c", "1")))
		refused(t, now, api.ErrStuck, put(file("/x", "1")), drop("/a"), put(link("/x/y", "1")))
		refused(t, now, api.ErrLong, tooLong...)
	}
	refused(t, crowd(api.MaxItems), api.ErrStuck, put(dir("/e")))
}

// P13.3: body and mark have just as many bytes as a file may have, and one more.
func TestStepsLong(t *testing.T) {
	for _, l := range [][]api.Redo{nil, row(put(dir("/a")), drop("/b"))} {
		for more := -2; more <= 2; more++ {
			all := append(slices.Clone(l), long(more, l...))
			if many := len(signed(all...)); many != api.MaxFile+more {
				t.Fatal(many, more)
			}
			got, e := journal.Steps(api.Tree{}, all)
			if more > 0 {
				refused(t, api.Tree{}, api.ErrLong, all...)
				continue
			}
			after, does, _ := redo.Apply(api.Tree{}, all)
			if e != api.OK || !slices.Equal(got, written(all, does)) {
				wrong(t, "Steps with %v bytes: %v %v", api.MaxFile+more, len(got), e)
			}
			d, many, e := journal.Run(api.Disk{Room: 2}, got)
			if e != api.OK || many != len(got) || !tree.Same(d.Safe, after) {
				wrong(t, "Run with %v bytes: %v %v", api.MaxFile+more, many, e)
			}
		}
	}
	refused(t, api.Tree{}, api.ErrLong, put(file("/x", bytes(api.MaxFile))))
	refused(t, api.Tree{}, api.ErrLong, put(file("/x", bytes(api.MaxFile-73))))
	refused(t, api.Tree{}, api.ErrLong, slices.Repeat(row(put(file("/x", bytes(200)))), api.MaxRedos)...)
}

// recovers asks for the steps of recovery, and tells what is otherwise than these.
func recovers(t *testing.T, now api.Tree, want string) {
	t.Helper()
	got, e := journal.Recover(now)
	if e != api.OK || !slices.Equal(got, steps(want)) {
		wrong(t, "Recover(%v): %v %v, not %v", now, got, e, want)
	}
	d, many, e := journal.Run(api.Disk{Safe: now}, got)
	if e != api.OK || many != len(got) || len(d.Wait) != 0 {
		wrong(t, "Recover(%v): %v: run: %v %v", now, got, many, e)
	}
	if again, e := journal.Recover(d.Safe); e != api.OK || len(again) != 0 {
		wrong(t, "Recover(%v), once more: %v %v", now, again, e)
	}
}

// P13.4: where nothing stands at /journal and at /stage; and where /stage alone does.
func TestRecoverStage(t *testing.T) {
	recovers(t, api.Tree{}, "")
	recovers(t, crowd(api.MaxItems), "")
	recovers(t, of(dir("/journal-"), file("/journal-/journal", signed()), file("/journals", "1"), dir("/stage-"), dir("/stage-/stage"), link("/stages", "/stage")), "")
	recovers(t, of(file("/stage", "1")), "free unlink /stage, sync")
	recovers(t, of(file("/stage", signed(put(dir("/a"))))), "free unlink /stage, sync")
	recovers(t, of(link("/stage", "/journal")), "free unlink /stage, sync")
	recovers(t, of(dir("/stage")), "free rmdir /stage, sync")
	recovers(t, of(dir("/stage"), dir("/stage/a"), file("/stage/a/f", "1"), link("/stage/a/l", "f"), file("/stage/b", ""), dir("/x"), file("/x/f", ""), dir("/stage-")), "free unlink /stage/b, free unlink /stage/a/l, free unlink /stage/a/f, free rmdir /stage/a, free rmdir /stage, sync")
	full, want := crowd(api.MaxItems), "free rmdir /stage, sync"
	for n, item := range full.Items {
		full.Items[n].Path = strings.Replace(item.Path, "/d", "/stage", 1)
		if n > 0 {
			want = "free unlink " + full.Items[n].Path + ", " + want
		}
	}
	recovers(t, full, want)
}

// P13.4: with something at /journal that is committed to nothing.
func TestRecoverNot(t *testing.T) {
	data := signed(put(dir("/a")), drop("/x"))
	for _, s := range []string{"", "1", bodyOf(put(dir("/a"))), data[:len(data)-1], data + "\n", data[:len(data)-72], data[1:], markOf("1"), signed(drop("/")), signed(api.Redo{})} {
		recovers(t, of(file("/journal", s)), "free unlink /journal, sync")
		recovers(t, of(file("/journal", s), dir("/a"), file("/a/f", "1"), link("/x", "journal")), "free unlink /journal, sync")
		recovers(t, of(file("/journal", s), file("/stage", s)), "free unlink /stage, free unlink /journal, sync")
		recovers(t, of(file("/journal", s), dir("/stage"), dir("/stage/keg"), file("/stage/keg/f", "1")), "free unlink /stage/keg/f, free rmdir /stage/keg, free rmdir /stage, free unlink /journal, sync")
	}
	recovers(t, of(link("/journal", data)), "free unlink /journal, sync")
	recovers(t, of(dir("/journal")), "free rmdir /journal, sync")
	recovers(t, of(dir("/journal"), file("/journal/journal", data), link("/journal/l", "x"), dir("/stage")), "free rmdir /stage, free unlink /journal/l, free unlink /journal/journal, free rmdir /journal, sync")
}

// P13.4: with a journal that is committed.
func TestRecoverCommitted(t *testing.T) {
	recovers(t, of(file("/journal", signed())), "sync, free unlink /journal, sync")
	recovers(t, of(file("/journal", signed()), dir("/x")), "sync, free unlink /journal, sync")
	recovers(t, of(file("/journal", signed()), dir("/stage"), dir("/stage/a")), "sync, free rmdir /stage/a, free rmdir /stage, free unlink /journal, sync")
	recovers(t, of(file("/journal", signed(put(dir("/x"))))), "free mkdir /x, sync, free unlink /journal, sync")
	recovers(t, of(file("/journal", signed(put(dir("/x")))), dir("/x"), file("/x/f", "1")), "sync, free unlink /journal, sync")
	recovers(t, of(file("/journal", signed(put(file("/x", "12")), put(link("/y", "x")), put(file("/z", "")))), file("/x", "1")), "free write /x 12, free link /y x, free write /z, sync, free unlink /journal, sync")
	recovers(t, of(file("/journal", signed(drop("/x"), put(file("/x", "12")))), dir("/x"), file("/x/f", "1")), "free unlink /x/f, free rmdir /x, free write /x 12, sync, free unlink /journal, sync")
	// What is staged is moved; what is left of it is cleared.
	staged := []api.Item{dir("/stage"), dir("/stage/keg"), file("/stage/keg/f", "1"), file("/stage/more", "2")}
	keg := row(put(dir("/a")), move("/stage/keg", "/a/keg"), put(file("/b", "1")))
	recovers(t, of(append(staged, file("/journal", signed(keg...)))...), "free mkdir /a, free move /stage/keg /a/keg, free write /b 1, sync, free unlink /stage/more, free rmdir /stage, free unlink /journal, sync")
	recovers(t, of(append(staged, file("/journal", signed(append(keg, drop("/stage"))...)))...), "free mkdir /a, free move /stage/keg /a/keg, free write /b 1, free unlink /stage/more, free rmdir /stage, sync, free unlink /journal, sync")
	// What redos make at /stage, and at /journal, is cleared, too.
	recovers(t, of(file("/journal", signed(put(dir("/stage")), put(file("/stage/f", "1"))))), "free mkdir /stage, free write /stage/f 1, sync, free unlink /stage/f, free rmdir /stage, free unlink /journal, sync")
	recovers(t, of(file("/journal", signed(put(dir("/journal")), put(dir("/journal/a"))))), "free unlink /journal, free mkdir /journal, free mkdir /journal/a, sync, free rmdir /journal/a, free rmdir /journal, sync")
	recovers(t, of(file("/journal", signed(put(file("/journal", signed(put(dir("/x")))))))), "free write /journal "+signed(put(dir("/x")))+", sync, free unlink /journal, sync")
	recovers(t, of(file("/journal", signed(drop("/journal"), put(dir("/x"))))), "free unlink /journal, free mkdir /x, sync, sync")
	recovers(t, of(file("/journal", signed(move("/journal", "/x")))), "free move /journal /x, sync, sync")
	recovers(t, of(file("/journal", signed(move("/journal", "/stage")))), "free move /journal /stage, sync, free unlink /stage, sync")
}

// P13.4: a tree that may not be, and one that is committed to redos that are stuck at it.
func TestRecoverErrors(t *testing.T) {
	fails := func(now api.Tree, want api.Errno) {
		t.Helper()
		if got, e := journal.Recover(now); len(got) != 0 || e != want {
			wrong(t, "Recover(%v): %v %v, not %v", now, got, e, want)
		}
	}
	for _, now := range badTrees() {
		fails(now, api.ErrTree)
	}
	stuck := signed(put(dir("/a")), put(dir("/x/y")), drop("/journal"))
	for _, now := range []api.Tree{{}, of(file("/x", "1")), of(dir("/a"), link("/x", "a")), of(dir("/stage"), file("/stage/f", "1"))} {
		fails(of(append(now.Items, file("/journal", stuck))...), api.ErrStuck)
		recovers(t, of(file("/journal", stuck[1:])), "free unlink /journal, sync")
	}
	recovers(t, of(file("/journal", stuck), dir("/x")), "free mkdir /a, free mkdir /x/y, free unlink /journal, sync, sync")
	fails(of(file("/journal", signed(move("/x", "/y/z"))), dir("/x")), api.ErrStuck)
	recovers(t, of(file("/journal", signed(move("/x", "/y/z")))), "sync, free unlink /journal, sync")
	// With the journal the tree is full.
	full := crowd(api.MaxItems - 1)
	fails(of(append(full.Items, file("/journal", signed(put(dir("/e")))))...), api.ErrStuck)
	recovers(t, of(append(full.Items, file("/journal", signed(drop("/d/10000"), put(dir("/e")))))...), "free unlink /d/10000, free mkdir /e, sync, free unlink /journal, sync")
	// Steps are not asked whether they are few enough to be run at once.
	many := row(put(dir("/d")))
	for n := range api.MaxRedos - 1 {
		many = append(many, [...]api.Redo{put(file("/d/f", "1")), put(file("/d/f", "2"))}[n%2])
	}
	if got, e := journal.Recover(of(file("/journal", signed(many...)))); e != api.OK || len(got) != api.MaxRedos+3 {
		wrong(t, "Recover: %v %v", len(got), e)
	}
}

// alike tells whether two disks are the same, without the packages that are tried.
func alike(a, b api.Disk) bool {
	return slices.Equal(a.Safe.Items, b.Safe.Items) && slices.Equal(a.Wait, b.Wait) && a.Room == b.Room
}

// runs runs steps, and tells what is otherwise than that disk, that many, and that error.
func runs(t *testing.T, d api.Disk, l []api.Step, want api.Disk, wantMany int, wantE api.Errno) {
	t.Helper()
	got, many, e := journal.Run(d, l)
	if !alike(got, want) || many != wantMany || e != wantE {
		wrong(t, "Run(%v, %v): %v %v %v, not %v %v %v", d, l, got, many, e, want, wantMany, wantE)
	}
}

// waits is a disk on which the tree behind operations is safe, others wait, and that room is.
func waits(safe, wait string, room int) api.Disk {
	return api.Disk{Safe: grown(safe), Wait: ops(wait), Room: room}
}

// P13.5: steps of which none has an error.
func TestRun(t *testing.T) {
	for _, room := range []int{api.AnyRoom, 0, 1, 7, math.MaxInt} {
		d := waits("mkdir /a, write /a/f 12", "mkdir /b", room)
		runs(t, d, nil, d, 0, api.OK)
		runs(t, d, steps("sync"), on("mkdir /a, write /a/f 12, mkdir /b", room), 1, api.OK)
		runs(t, d, steps("sync, sync, sync"), on("mkdir /a, write /a/f 12, mkdir /b", room), 3, api.OK)
		runs(t, d, steps("free mkdir /c, unlink /a/f"), waits("mkdir /a, write /a/f 12", "mkdir /b, mkdir /c, unlink /a/f", room), 2, api.OK)
		runs(t, d, steps("free mkdir /c, sync, unlink /a/f"), waits("mkdir /a, write /a/f 12, mkdir /b, mkdir /c", "unlink /a/f", room), 3, api.OK)
		runs(t, d, steps("sync, free mkdir /c, unlink /a/f, sync, sync, rmdir /a, free link /a b"), waits("mkdir /a, mkdir /b, mkdir /c", "rmdir /a, link /a b", room), 7, api.OK)
	}
	runs(t, api.Disk{}, nil, api.Disk{}, 0, api.OK)
	runs(t, api.Disk{}, steps("sync"), api.Disk{}, 1, api.OK)
	all := "mkdir /a, write /a/f 1, append /a/f 2, link /a/l f, move /a /b, unlink /b/l, mkdir /c, rmdir /c"
	runs(t, on("", api.AnyRoom), steps(all), waits("", all, api.AnyRoom), 8, api.OK)
	runs(t, on("", 5), steps(all), waits("", all, 0), 8, api.OK)
	runs(t, on("", 9), steps(all+", sync"), on("mkdir /b, write /b/f 12", 4), 9, api.OK)
}

// P13.5: steps of which one has an error.
func TestRunErrors(t *testing.T) {
	ahead := "mkdir /a, write /a/f 1"
	for _, c := range []struct {
		step string
		want api.Errno
	}{
		{"mkdir /a", api.ErrThere}, {"mkdir /x/y", api.ErrNone}, {"mkdir /a/f/x", api.ErrKind}, {"write /a", api.ErrKind}, {"append /x 1", api.ErrNone}, {"link /a/f x", api.ErrThere}, {"move /a /a/b", api.ErrArg},
		{"unlink /a", api.ErrKind}, {"rmdir /a", api.ErrBusy}, {"append /a/f " + bytes(api.MaxFile), api.ErrLong},
	} {
		for _, step := range []string{c.step, "free " + c.step} {
			for _, behind := range []string{"", ", mkdir /b", ", sync", ", " + step} {
				runs(t, on(ahead, 3), steps(step+behind), on(ahead, 3), 0, c.want)
				runs(t, on("", api.AnyRoom), steps(ahead+", "+step+behind), waits("", ahead, api.AnyRoom), 2, c.want)
				runs(t, on("", 9), steps(ahead+", "+step+behind), waits("", ahead, 7), 2, c.want)
				runs(t, on("", 9), steps("free mkdir /a, write /a/f 1, sync, "+step+behind), on(ahead, 8), 3, c.want)
				runs(t, on("", 2), steps(ahead+", sync, free mkdir /c, "+step+behind), waits(ahead, "mkdir /c", 0), 4, errorOf(c.want, step))
			}
		}
	}
}

// errorOf is the error of a step where there is no room: that of want, unless it needs some.
func errorOf(want api.Errno, step string) api.Errno {
	for _, kind := range []string{"mkdir", "write", "append", "link"} {
		if strings.HasPrefix(step, kind) {
			return api.ErrRoom
		}
	}
	return want
}

// P13.5: steps, free or not, on a disk without room, and with some.
func TestRunRoom(t *testing.T) {
	for _, s := range []string{"mkdir /x", "write /x 1", "write /a/f 2", "append /a/f 2", "link /x y"} {
		d := on("mkdir /a, write /a/f 1, mkdir /b", 0)
		after := waits("mkdir /a, write /a/f 1, mkdir /b", s, 0)
		runs(t, d, steps(s), d, 0, api.ErrRoom)
		runs(t, d, steps("free "+s), after, 1, api.OK)
		runs(t, d, steps("free "+s+", rmdir /b, "+s+", free rmdir /a"), waits("mkdir /a, write /a/f 1, mkdir /b", s+", rmdir /b", 0), 2, api.ErrRoom)
		d.Room = 1
		runs(t, d, steps(s), after, 1, api.OK)
		runs(t, d, steps("sync, "+s+", sync, mkdir /c, sync"), api.Disk{Safe: grown("mkdir /a, write /a/f 1, mkdir /b, " + s), Room: 0}, 3, api.ErrRoom)
		d.Room = 2
		runs(t, d, steps("free mkdir /c, "+s+", free mkdir /e, mkdir /g, mkdir /h, free mkdir /i"), waits("mkdir /a, write /a/f 1, mkdir /b", "mkdir /c, "+s+", mkdir /e, mkdir /g", 0), 4, api.ErrRoom)
	}
	d := on("mkdir /a, write /a/f 1, mkdir /b", 0)
	for _, s := range []string{"move /a /c", "unlink /a/f", "rmdir /b"} {
		runs(t, d, steps(s), waits("mkdir /a, write /a/f 1, mkdir /b", s, 0), 1, api.OK)
		runs(t, d, steps("free "+s), waits("mkdir /a, write /a/f 1, mkdir /b", s, 0), 1, api.OK)
	}
	full := api.Disk{Safe: crowd(api.MaxItems), Room: 0}
	runs(t, full, steps("mkdir /e"), full, 0, api.ErrRoom)
	runs(t, full, steps("free mkdir /e"), full, 0, api.ErrFull)
	full.Room = 1
	runs(t, full, steps("mkdir /e"), full, 0, api.ErrFull)
}

// churn are n steps, of which each may be behind those ahead: /x comes and goes.
func churn(n int, kinds string) []api.Step {
	l := steps(kinds)
	return slices.Repeat(l, n/len(l)+1)[:n]
}

// P13.5: just MaxSteps steps, and one more; just MaxWait that wait, and one more.
func TestRunMany(t *testing.T) {
	for _, room := range []int{api.AnyRoom, 0, api.MaxSteps} {
		runs(t, on("", room), churn(api.MaxSteps, "sync"), on("", room), api.MaxSteps, api.OK)
		runs(t, on("", room), churn(api.MaxSteps, "free mkdir /x, sync, free rmdir /x, sync"), on("", room), api.MaxSteps, api.OK)
		runs(t, on("", room), churn(api.MaxSteps+1, "sync"), api.Disk{}, 0, api.ErrLong)
		runs(t, on("", room), churn(api.MaxSteps+1, "free mkdir /x, free rmdir /x"), api.Disk{}, 0, api.ErrLong)
		runs(t, on("", room), make([]api.Step, api.MaxSteps+1), api.Disk{}, 0, api.ErrLong)
		waiting := waits("", strings.Repeat("mkdir /x, rmdir /x, ", api.MaxWait/2), room)
		l := churn(api.MaxSteps, "free mkdir /x, free rmdir /x")
		runs(t, on("", room), l[:api.MaxWait], waiting, api.MaxWait, api.OK)
		runs(t, on("", room), l[:api.MaxWait+1], waiting, api.MaxWait, api.ErrFull)
		runs(t, on("", room), l, waiting, api.MaxWait, api.ErrFull)
		runs(t, waiting, l, waiting, 0, api.ErrFull)
		runs(t, waiting, append(steps("sync"), l[:api.MaxWait]...), waiting, api.MaxWait+1, api.OK)
		runs(t, waiting, append(steps("sync, free mkdir /y, free rmdir /y"), l[:api.MaxSteps-3]...), api.Disk{Wait: append(ops("mkdir /y, rmdir /y"), waiting.Wait[:api.MaxWait-2]...), Room: room}, api.MaxWait+1, api.ErrFull)
	}
	d, many, e := journal.Run(on("", api.MaxSteps), slices.Concat(churn(7998, "mkdir /x, rmdir /x"), steps("sync"), churn(4000, "free mkdir /x, free rmdir /x"), steps("sync"), churn(8000, "write /x 1, append /x 2")))
	if many != api.MaxSteps || e != api.OK || d.Room != api.MaxSteps-3999-8000 || len(d.Wait) != 8000 {
		wrong(t, "Run: %v %v %v %v", many, e, d.Room, len(d.Wait))
	}
}

// badDisks are disks that may not be.
func badDisks() []api.Disk {
	l := []api.Disk{on("", -2), on("", math.MinInt), waits("", "rmdir /a", 0), waits("mkdir /a", "mkdir /a", api.AnyRoom), waits("", "mkdir /a, mkdir /b/c", 3), {Wait: []api.Op{{}}}, {Wait: ops(strings.Repeat("mkdir /x, rmdir /x, ", api.MaxWait/2) + "mkdir /x")}}
	for _, now := range badTrees() {
		l = append(l, api.Disk{Safe: now, Room: api.AnyRoom})
	}
	return l
}

// P13.5: a disk that may not be, too many steps, and one that may not be, those ahead going ahead.
func TestRunBad(t *testing.T) {
	for _, d := range badDisks() {
		for _, l := range [][]api.Step{nil, steps("sync"), steps("mkdir /x"), make([]api.Step, 1), make([]api.Step, api.MaxSteps+1), steps("rmdir /y")} {
			runs(t, d, l, api.Disk{}, 0, api.ErrDisk)
		}
	}
	d := waits("mkdir /a", "mkdir /b", 3)
	for _, s := range badSteps() {
		runs(t, d, []api.Step{s}, api.Disk{}, 0, api.ErrStep)
		runs(t, d, append(steps("sync, mkdir /x"), s), api.Disk{}, 0, api.ErrStep)
		// One that may not be goes ahead of one that has an error, wherever they stand.
		runs(t, d, append(steps("mkdir /a, sync"), s, sync), api.Disk{}, 0, api.ErrStep)
		runs(t, d, append([]api.Step{s}, steps("mkdir /a, sync")...), api.Disk{}, 0, api.ErrStep)
	}
	many := churn(api.MaxSteps, "sync")
	many[api.MaxSteps-1] = api.Step{}
	runs(t, d, many, api.Disk{}, 0, api.ErrStep)
	runs(t, d, append(many, sync), api.Disk{}, 0, api.ErrLong)
}

// P13.3 to P13.5: the chapter's examples.
func TestExamples(t *testing.T) {
	a, b := api.Tree{}, of(dir("/x"))
	l, _ := redo.Between(a, b)
	all, e := journal.Steps(a, l)
	if e != api.OK || len(all) != 8 || all[2] != (api.Step{Op: op("append /journal " + markOf("1;2:/x1;0:"))}) {
		t.Errorf("Steps: %v %d", all, e)
	}
	for _, c := range []struct {
		first int
		want  string
	}{{2, "free unlink /journal, sync"}, {4, "free mkdir /x, sync, free unlink /journal, sync"}} {
		d, _ := disk.New(a)
		d, many, e := journal.Run(d, all[:c.first])
		if many != c.first || e != api.OK {
			t.Errorf("Run: %d %d", many, e)
		}
		d, _ = disk.Crash(d, 0, 0)
		recovers(t, d.Safe, c.want)
	}
	recovers(t, b, "")
	refused(t, of(file("/journal", "")), api.ErrDirty)
}
