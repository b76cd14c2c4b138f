package reloc_test

import (
	"fmt"
	"slices"
	"strings"
	"testing"

	"puncheon/api"
	"puncheon/pack"
	"puncheon/reloc"
)

// texts are all texts of at most n of these pieces.
func texts(n int, pieces ...string) []string {
	all := []string{""}
	from := 0
	for range n {
		to := len(all)
		for _, s := range all[from:to] {
			for _, piece := range pieces {
				all = append(all, s+piece)
			}
		}
		from = to
	}
	return all
}

// law are texts, and prefixes whose places may stand in them.
type law struct {
	texts, prefixes []string
}

// laws are all short texts, and binary bytes, of what lies close together.
func laws() []law {
	return []law{
		{texts(7, "a", "b", "\x00"), []string{"a", "b", "aa", "ab", "aba", "bab", "aaaa"}},
		{texts(10, "a", "\x00"), []string{"a", "aa", "aaa", "aaaa"}},
		{texts(5, "/o", "/opt", "pt", "\x00", "\x00\x00\x00", "x"), []string{"/", "/o", "/op", "/opt", "/opt/o", "/q"}},
	}
}

// each does something for all texts and pairs of prefixes of all laws.
func each(do func(data, from, to string)) {
	for _, l := range laws() {
		for _, data := range l.texts {
			for _, from := range l.prefixes {
				for _, to := range l.prefixes {
					do(data, from, to)
				}
			}
		}
	}
}

// plainIs tells whether p is a prefix, without the package that is tried.
func plainIs(p string) bool {
	return len(p) > 0 && len(p) <= 60 && strings.Count(p, "\x00") == 0
}

// plainPut answers s with to instead of from, and where to stands then, by what stands between the places.
func plainPut(s, from, to string) (string, []int) {
	between := strings.Split(s, from)
	now := between[0]
	var put []int
	for _, piece := range between[1:] {
		put = append(put, len(now))
		now += to + piece
	}
	return now, put
}

// plainPlaces answers the places of a prefix, without the package that is tried.
func plainPlaces(s, prefix string) []int {
	if !plainIs(prefix) {
		return nil
	}
	_, put := plainPut(s, prefix, prefix)
	return put
}

// plainMove does what the chapter says of Move, without the package that is tried.
func plainMove(data, from, to string) (string, []int, api.Errno) {
	if !plainIs(from) || !plainIs(to) {
		return "", nil, api.ErrReloc
	}
	if !strings.Contains(data, "\x00") {
		now, put := plainPut(data, from, to)
		return now, put, api.OK
	}
	rest := strings.TrimLeft(data, "\x00")
	now := noughts(len(data) - len(rest))
	var put []int
	for rest != "" {
		run, _, _ := strings.Cut(rest, "\x00")
		next := strings.TrimLeft(rest[len(run):], "\x00")
		moved, within := plainPut(run, from, to)
		behind := len(rest) - len(next) - len(moved)
		if behind < 0 || behind == 0 && next != "" {
			return "", nil, api.ErrLong
		}
		for _, at := range within {
			put = append(put, len(now)+at)
		}
		now += moved + noughts(behind)
		rest = next
	}
	if !strings.Contains(now, "\x00") {
		return "", nil, api.ErrLong
	}
	return now, put, api.OK
}

// P14.1, P14.2: Binary and Places of all short texts.
func TestLawPlaces(t *testing.T) {
	for _, l := range laws() {
		for _, data := range l.texts {
			if reloc.Binary(data) != strings.Contains(data, "\x00") {
				t.Fatalf("Binary(%q)", data)
			}
			for _, p := range append(l.prefixes, "", "\x00", "a\x00", "\x00a", "\x00\x00") {
				if got, want := reloc.Places(data, p), plainPlaces(data, p); !slices.Equal(got, want) {
					t.Fatalf("Places(%q, %q): %v, not %v", data, p, got, want)
				}
			}
		}
	}
}

// P14.2: Places are rising, each the first one behind the end of the one ahead, and none goes over a 0.
func TestLawPlacesFirst(t *testing.T) {
	for _, l := range laws() {
		for _, data := range l.texts {
			for _, p := range l.prefixes {
				end := 0
				for _, at := range reloc.Places(data, p) {
					if at < end || at-end != strings.Index(data[end:], p) {
						t.Fatalf("Places(%q, %q): %d behind %d", data, p, at, end)
					}
					end = at + len(p)
				}
				if strings.Contains(data[end:], p) {
					t.Fatalf("Places(%q, %q): none behind %d", data, p, end)
				}
			}
		}
	}
}

// P14.3: Move of all short texts.
func TestLawMove(t *testing.T) {
	var moved, long int
	each(func(data, from, to string) {
		got, put, e := reloc.Move(data, from, to)
		want, wantPut, wantE := plainMove(data, from, to)
		if got != want || !slices.Equal(put, wantPut) || e != wantE {
			t.Fatalf("Move(%q, %q, %q): %q %v %d, not %q %v %d", data, from, to, got, put, e, want, wantPut, wantE)
		}
		if e == api.ErrLong {
			long++
		} else if len(put) > 0 && reloc.Binary(data) {
			moved++
		}
	})
	if moved < 10000 || long < 10000 {
		t.Errorf("just %d were moved, and %d not", moved, long)
	}
}

// starts are where the runs of binary bytes begin.
func starts(data string) []int {
	var l []int
	for n := range data {
		if data[n] != 0 && (n == 0 || data[n-1] == 0) {
			l = append(l, n)
		}
	}
	return l
}

// P14.3: of binary bytes each run stays where it begins, as many as there are, and is what it becomes as a text; something has to be 0 still.
func TestLawRuns(t *testing.T) {
	each(func(data, from, to string) {
		got, _, e := reloc.Move(data, from, to)
		if !reloc.Binary(data) || e != api.OK {
			return
		}
		if !slices.Equal(starts(got), starts(data)) || !reloc.Binary(got) {
			t.Fatalf("Move(%q, %q, %q): %q", data, from, to, got)
		}
		for _, at := range starts(data) {
			was, _, _ := strings.Cut(data[at:], "\x00")
			now, _, _ := strings.Cut(got[at:], "\x00")
			if text, _, e := reloc.Move(was, from, to); text != now || e != api.OK {
				t.Fatalf("Move(%q, %q, %q): %q, though %q becomes %q", data, from, to, got, was, text)
			}
		}
	})
}

// P14.3: with enough noughts behind each run there is no error; with one fewer behind one that is not the last there is.
func TestLawRoom(t *testing.T) {
	runs := texts(3, "a", "b", "ab")[1:]
	for _, to := range []string{"b", "ab", "aba", "bbbb", strings.Repeat("b", 60)} {
		for n, run := range runs {
			text, _, _ := reloc.Move(run, "a", to)
			grown := len(text) - len(run)
			other := runs[(n*5)%len(runs)]
			for room := max(1, grown-1); room < grown+4; room++ {
				behind, end := api.OK, api.OK
				if room < grown+1 {
					behind = api.ErrLong
				}
				if room < grown {
					end = api.ErrLong
				}
				if _, _, e := reloc.Move("b\x00"+run+noughts(room)+"b\x00"+other+noughts(1000), "a", to); e != behind {
					t.Fatalf("%q with %d noughts between two, to %q: %d", run, room, to, e)
				}
				if _, _, e := reloc.Move("b\x00"+other+noughts(1000)+run+noughts(room), "a", to); e != end {
					t.Fatalf("%q with %d noughts at the end, to %q: %d", run, room, to, e)
				}
				if _, _, e := reloc.Move(run+noughts(room), "a", to); e != behind {
					t.Fatalf("%q with %d noughts, to %q: %d", run, room, to, e)
				}
			}
		}
	}
}

// P14.5: from a prefix to itself, and where it has no place, bytes are as they were.
func TestLawItself(t *testing.T) {
	each(func(data, from, to string) {
		if got, put, e := reloc.Move(data, from, from); got != data || !slices.Equal(put, reloc.Places(data, from)) || e != api.OK {
			t.Fatalf("Move(%q, %q, %q): %q %v %d", data, from, from, got, put, e)
		}
		if len(reloc.Places(data, from)) > 0 {
			return
		}
		if got, put, e := reloc.Move(data, from, to); got != data || len(put) != 0 || e != api.OK {
			t.Fatalf("Move(%q, %q, %q): %q %v %d", data, from, to, got, put, e)
		}
	})
}

// P14.3, P14.5: how long bytes are then, and where the second prefix is put.
func TestLawLength(t *testing.T) {
	each(func(data, from, to string) {
		got, put, e := reloc.Move(data, from, to)
		if e != api.OK {
			return
		}
		many := len(reloc.Places(data, from))
		want := len(data)
		if !reloc.Binary(data) {
			want += many * (len(to) - len(from))
		}
		if len(got) != want || len(put) != many || reloc.Binary(got) != reloc.Binary(data) {
			t.Fatalf("Move(%q, %q, %q): %q %v, of %d bytes", data, from, to, got, put, want)
		}
		end := 0
		for _, at := range put {
			if at < end || !strings.HasPrefix(got[at:], to) {
				t.Fatalf("Move(%q, %q, %q): %q %v", data, from, to, got, put)
			}
			end = at + len(to)
		}
	})
}

// P14.5: there and back, where the places are those where it was put; and where they are not.
func TestLawBack(t *testing.T) {
	var same, other int
	each(func(data, from, to string) {
		there, put, e := reloc.Move(data, from, to)
		if e != api.OK || len(put) == 0 {
			return
		}
		back, putBack, e := reloc.Move(there, to, from)
		if slices.Equal(reloc.Places(there, to), put) {
			if back != data || !slices.Equal(putBack, reloc.Places(data, from)) || e != api.OK {
				t.Fatalf("Move(%q, %q, %q), and back: %q %v %d", data, from, to, back, putBack, e)
			}
			same++
		} else if back != data {
			other++
		}
		if want, wantPut, wantE := plainMove(there, to, from); back != want || !slices.Equal(putBack, wantPut) || e != wantE {
			t.Fatalf("Move(%q, %q, %q), and back: %q %v %d, not %q", data, from, to, back, putBack, e, want)
		}
	})
	if same < 10000 || other < 10000 {
		t.Errorf("just %d were the same, and %d others", same, other)
	}
}

// numbers answers a function that tells numbers below its argument, each time the same ones.
func numbers() func(below int) int {
	x := uint64(1)
	return func(below int) int {
		x = x*6364136223846793005 + 1442695040888963407
		return int((x >> 33) % uint64(below))
	}
}

// P14.2, P14.3: longer bytes of all sorts, and prefixes of all lengths.
func TestLawAnyBytes(t *testing.T) {
	next := numbers()
	some := func(most, of int) string {
		b := make([]byte, next(most+1))
		for n := range b {
			b[n] = byte(next(of) - 1)
		}
		return string(b)
	}
	var moved, long int
	for n := range 30000 {
		of := []int{3, 4, 257}[n%3]
		from, to, data := some(63, of), some(63, of), some(20, of)
		if n%2 == 0 {
			from = from[:min(len(from), 3)]
		}
		for range next(5) {
			data += from + noughts(next(3)*next(60)) + some(20, of)
		}
		got, put, e := reloc.Move(data, from, to)
		want, wantPut, wantE := plainMove(data, from, to)
		if got != want || !slices.Equal(put, wantPut) || e != wantE || !slices.Equal(reloc.Places(data, from), plainPlaces(data, from)) {
			t.Fatalf("Move(%q, %q, %q): %q %v %d, not %q %v %d", data, from, to, got, put, e, want, wantPut, wantE)
		}
		if e == api.ErrLong {
			long++
		} else if len(put) > 0 {
			moved++
		}
	}
	if moved < 1000 || long < 1000 {
		t.Errorf("just %d were moved, and %d not", moved, long)
	}
}

// plainLeaves does what the chapter says of Leaves, without the package that is tried.
func plainLeaves(l []api.Leaf, from, to string) ([]api.Leaf, api.Errno) {
	if pack.CheckLeaves(l) != api.OK {
		return nil, api.ErrPack
	}
	if !plainIs(from) || !plainIs(to) {
		return nil, api.ErrReloc
	}
	var now []api.Leaf
	for _, leaf := range l {
		data, _, e := plainMove(leaf.Data, from, to)
		if e != api.OK || len(data) > 200 {
			return nil, api.ErrLong
		}
		now = append(now, api.Leaf{Path: leaf.Path, Dir: leaf.Dir, Data: data})
	}
	return now, api.OK
}

// someLeaves are rows of leaves, most of which may be a pack's.
func someLeaves() [][]api.Leaf {
	l := append(badLeaves(), nil, leaves("/o/", "/o/o=/o", "/opt="))
	data := []string{"", "/o", "/opt", "x/o/opt:/o", z("/o0"), z("/opt0x"), z("/o000x"), z("0/o00"), "/o" + long(195), "/o" + long(196), "/o" + long(197), "/o" + noughts(198), strings.Repeat("/o", 50), strings.Repeat("/o", 51)}
	for _, a := range data {
		for _, b := range data {
			l = append(l, []api.Leaf{{Path: "/a", Data: a}, {Path: "/b", Data: b}}, []api.Leaf{{Path: "/a", Dir: true}, {Path: "/a/o", Data: a}, {Path: "/o", Dir: true}, {Path: "/o/o", Data: b}})
		}
	}
	return l
}

// P14.4: Leaves of rows of leaves; each is what its Data becomes alone.
func TestLawLeaves(t *testing.T) {
	prefixes := []string{"/o", "/opt", "/op", "/", "x", strings.Repeat("x", 60), "", "\x00", strings.Repeat("x", 61)}
	count := map[api.Errno]int{}
	for _, l := range someLeaves() {
		for _, from := range prefixes {
			for _, to := range prefixes {
				got, e := reloc.Leaves(l, from, to)
				want, wantE := plainLeaves(l, from, to)
				if !slices.Equal(got, want) || e != wantE {
					t.Fatalf("Leaves(%s, %q, %q): %s %d, not %s %d", tell(l), from, to, tell(got), e, tell(want), wantE)
				}
				if e == api.OK && pack.CheckLeaves(got) != api.OK {
					t.Fatalf("Leaves(%s, %q, %q): %s may not be", tell(l), from, to, tell(got))
				}
				count[e]++
			}
		}
	}
	for _, e := range []api.Errno{api.OK, api.ErrLong, api.ErrPack, api.ErrReloc} {
		if count[e] < 1000 {
			t.Errorf("just %d of %d", count[e], e)
		}
	}
}

// R1: no call panics, or goes on without end, at whatever it is given.
func TestRuleEnds(t *testing.T) {
	var all []string
	for _, piece := range []string{"a", "\x00", "a\x00", "a\x00\x00", "\x00aa", "é", "\xff", "ab", strings.Repeat("a", 59) + "b", strings.Repeat("a", 60)} {
		all = append(all, piece, strings.Repeat(piece, 1<<12), strings.Repeat(piece, 1<<10)+"\x00", "\x00"+strings.Repeat(piece, 1<<10))
	}
	prefixes := []string{"", "a", "aa", "ab", "b", "\x00", "a\x00", "é", "\xa9", "\xff", strings.Repeat("a", 60), strings.Repeat("a", 59) + "b", strings.Repeat("a", 61), long(1 << 20)}
	for n, data := range all {
		for k, from := range prefixes {
			reloc.Check(data)
			reloc.Binary(data)
			reloc.Places(data, from)
			to := prefixes[(n+k)%len(prefixes)]
			got, put, e := reloc.Move(data, from, to)
			if e != api.OK && (got != "" || len(put) != 0) {
				t.Fatalf("Move(%.50q, %.50q, %.50q): %.50q %d", data, from, to, got, e)
			}
			reloc.Leaves([]api.Leaf{{Path: "/a", Data: data}}, from, to)
			reloc.Leaves([]api.Leaf{{Path: data, Data: from}, {Path: from, Dir: true}}, from, to)
		}
	}
	reloc.Leaves(make([]api.Leaf, 1<<18), "a", "b")
	for n := range 256 {
		c := string([]byte{byte(n)})
		if got, _, e := reloc.Move(c, c, "x"); n > 0 && (got != "x" || e != api.OK) {
			t.Fatalf("Move(%q): %q %d", c, got, e)
		}
	}
}

// R1: many bytes; a run for which there is no room, however much it would grow.
func TestRuleMany(t *testing.T) {
	const many = 1 << 20
	data := strings.Repeat("a", many)
	moves(t, data+"\x00", "a", long(60), "", api.ErrLong)
	if got, put, e := reloc.Move(data, "aa", "b"); got != strings.Repeat("b", many/2) || len(put) != many/2 || e != api.OK {
		t.Errorf("Move: %d bytes, %d places, %d", len(got), len(put), e)
	}
	if got, put, e := reloc.Move(data+noughts(many+1), "a", "bc"); got != strings.Repeat("bc", many)+"\x00" || len(put) != many || e != api.OK {
		t.Errorf("Move: %d bytes, %d places, %d", len(got), len(put), e)
	}
	if got, put, e := reloc.Move(strings.Repeat("a\x00\x00", many), "a", "bc"); got != strings.Repeat("bc\x00", many) || len(put) != many || e != api.OK {
		t.Errorf("Move: %d bytes, %d places, %d", len(got), len(put), e)
	}
}

// roomy are the same leaves in other memory, with room behind their end, in which something stands.
func roomy(l []api.Leaf) []api.Leaf {
	return append(slices.Clone(l), leaves("/room/", "/room/f=/o", "/zz=/opt")...)[:len(l)]
}

// R3: what is handed in stays as it is, the room behind a list's end, too.
func TestRuleHandedIn(t *testing.T) {
	for _, l := range someLeaves() {
		for _, c := range [][2]string{{"/o", "/opt"}, {"/opt", "/o"}, {"/o", "/o"}, {"", "/o"}} {
			in := roomy(l)
			ahead := slices.Clone(in[:cap(in)])
			got, e := reloc.Leaves(in, c[0], c[1])
			if !slices.Equal(in[:cap(in)], ahead) {
				t.Fatalf("%s became %s", tell(ahead), tell(in[:cap(in)]))
			}
			if want, wantE := reloc.Leaves(l, c[0], c[1]); !slices.Equal(got, want) || e != wantE {
				t.Fatalf("with room behind its end %s becomes %s %d, not %s %d", tell(l), tell(got), e, tell(want), wantE)
			}
		}
	}
}

// R3: what was handed in is not kept, and what is answered is new memory: neither is spoilt with the other, nor with another answer.
func TestRuleNewMemory(t *testing.T) {
	spoil := func(l []api.Leaf) {
		for n := range l[:cap(l)] {
			l[:cap(l)][n] = api.Leaf{Path: "/spoilt", Data: "/o"}
		}
	}
	for _, l := range someLeaves() {
		for _, c := range [][2]string{{"/o", "/opt"}, {"/opt", "/o"}, {"/o", "/o"}, {"/q", "/o"}} {
			in := roomy(l)
			want, wantE := plainLeaves(l, c[0], c[1])
			first, _ := reloc.Leaves(in, c[0], c[1])
			second, _ := reloc.Leaves(in, c[0], c[1])
			spoil(first)
			if !slices.Equal(in, l) || !slices.Equal(second, want) {
				t.Fatalf("with an answer spoilt: %s, and %s, not %s", tell(in), tell(second), tell(want))
			}
			spoil(in)
			if !slices.Equal(second, want) {
				t.Fatalf("with what was handed in spoilt: %s, not %s", tell(second), tell(want))
			}
			copy(in, l)
			if third, e := reloc.Leaves(in, c[0], c[1]); !slices.Equal(third, want) || e != wantE {
				t.Fatalf("asked anew: %s %d, not %s %d", tell(third), e, tell(want), wantE)
			}
		}
	}
}

// R3: places that are answered are new memory.
func TestRuleNewPlaces(t *testing.T) {
	for _, data := range []string{"/o", "x/o/o", z("/o000x"), z("/o000/o00")} {
		places := reloc.Places(data, "/o")
		_, put, _ := reloc.Move(data, "/o", "/op")
		_, again, _ := reloc.Move(data, "/o", "/op")
		for _, l := range [][]int{places, put} {
			for n := range l[:cap(l)] {
				l[:cap(l)][n] = -1
			}
		}
		now, want, e := plainMove(data, "/o", "/op")
		if !slices.Equal(again, want) || !slices.Equal(reloc.Places(data, "/o"), plainPlaces(data, "/o")) {
			t.Fatalf("of %q: %v, not %v", data, again, want)
		}
		moves(t, data, "/o", "/op", now, e, want...)
	}
}

// R5: each answer is the same in whatever order, and however often, it is asked.
func TestRuleOrder(t *testing.T) {
	type call struct{ data, from, to string }
	var calls []call
	for _, data := range texts(4, "/o", "/opt", "\x00", "x") {
		for _, c := range [][2]string{{"/o", "/opt"}, {"/opt", "/o"}, {"", "/o"}} {
			calls = append(calls, call{data, c[0], c[1]})
		}
	}
	asked := func(c call) string {
		got, put, e := reloc.Move(c.data, c.from, c.to)
		l, f := reloc.Leaves([]api.Leaf{{Path: "/a", Data: c.data}}, c.from, c.to)
		return fmt.Sprintf("%q %v %d %v %v %d %s %d", got, put, e, reloc.Binary(c.data), reloc.Places(c.data, c.from), reloc.Check(c.from), tell(l), f)
	}
	var first []string
	for _, c := range calls {
		first = append(first, asked(c))
	}
	for n := range calls {
		back := len(calls) - 1 - n
		if got := asked(calls[back]); got != first[back] {
			t.Fatalf("of %q: %s, not %s", calls[back], got, first[back])
		}
	}
}
