package view_test

import (
	"slices"
	"testing"

	"puncheon/api"
	"puncheon/view"
)

// stack asks what is seen of a stack at a path, and tells what is otherwise.
func stack(t *testing.T, l [][][]api.Leaf, p string, place int, want api.Sight) {
	t.Helper()
	if n, got, e := view.Stack(l, p); n != place || tell(got) != tell(want) || e != api.OK {
		t.Errorf("Stack(%s, %s): %d, %s, %d, not %d, %s", short(l), short(p), n, short(tell(got)), e, place, short(tell(want)))
	}
}

// noStack asks that nothing is answered but this error.
func noStack(t *testing.T, l [][][]api.Leaf, p string, want api.Errno) {
	t.Helper()
	if n, got, e := view.Stack(l, p); n != 0 || tell(got) != tell(none) || e != want {
		t.Errorf("Stack(%s, %s): %d, %s, %d, not %d", short(l), short(p), n, short(tell(got)), e, want)
	}
}

// P17.2: of no stack nothing is seen anywhere, and nothing is wrong.
func TestStackNone(t *testing.T) {
	for _, p := range append(badPaths(), "/", "/x", "/x/f") {
		stack(t, nil, p, -1, none)
		stack(t, [][][]api.Leaf{}, p, -1, none)
	}
}

// P17.2: the first row of rows that has something there, at each place; whatever stands behind it has no say.
func TestStackFirst(t *testing.T) {
	has, other, lacks := rows("/y", "/x/ /x/f=1"), rows("", "/x/ /x/g", "/x/ /x/f=2 /z"), rows("/x/ /x/g", "/z")
	for many := 1; many <= api.MaxStack; many++ {
		without := slices.Repeat([][][]api.Leaf{lacks}, many)
		stack(t, without, "/x/f", -1, none)
		stack(t, make([][][]api.Leaf, many), "/x/f", -1, none)
		stack(t, slices.Repeat([][][]api.Leaf{rows("", "")}, many), "/x/f", -1, none)
		for place := range many {
			l := slices.Clone(without)
			l[place] = has
			stack(t, l, "/x/f", place, file(1, "1"))
			for n := place + 1; n < many; n++ {
				l[n] = other
				stack(t, l, "/x/f", place, file(1, "1"))
			}
			l[place] = other
			stack(t, l, "/x/f", place, file(2, "2"))
			for n := place + 1; n < many; n++ {
				l[n] = has
			}
			stack(t, l, "/x/f", place, file(2, "2"))
		}
	}
}

// P17.2: whatever is seen in front hides what is behind, a directory, too, be it empty; names are those of one row of rows alone.
func TestStackHides(t *testing.T) {
	empty, more, plain, far := rows("/x/"), rows("/x/ /x/g", "/x/ /x/f=1"), rows("/x=2"), rows("/q", "/y/")
	stack(t, [][][]api.Leaf{empty, more, plain}, "/x", 0, dir())
	stack(t, [][][]api.Leaf{more, empty, plain}, "/x", 0, dir("f", "g"))
	stack(t, [][][]api.Leaf{plain, more, empty}, "/x", 0, file(0, "2"))
	stack(t, [][][]api.Leaf{far, nil, more, plain}, "/x", 2, dir("f", "g"))
	stack(t, [][][]api.Leaf{nil, far, plain, more}, "/x", 2, file(0, "2"))
	// A file in front does not hide what is beneath its path.
	stack(t, [][][]api.Leaf{plain, far, more}, "/x/f", 2, file(1, "1"))
	stack(t, [][][]api.Leaf{plain, far, empty}, "/x/f", -1, none)
	stack(t, [][][]api.Leaf{empty, far, more}, "/x/g", 2, file(0, ""))
	stack(t, [][][]api.Leaf{empty, rows("/x"), plain}, "/x", 0, dir())
	stack(t, [][][]api.Leaf{rows("/x"), plain}, "/x", 0, file(0, ""))
	// Rows of several rows of rows need not go together.
	stack(t, [][][]api.Leaf{plain, plain, plain}, "/x", 0, file(0, "2"))
	stack(t, [][][]api.Leaf{rows("", "", "/w=5"), plain}, "/x", 1, file(0, "2"))
}

// P17.2: the root is seen of the first row of rows, be there nothing in it.
func TestStackRoot(t *testing.T) {
	has := rows("/a", "/b/")
	stack(t, [][][]api.Leaf{nil}, "/", 0, dir())
	stack(t, [][][]api.Leaf{has}, "/", 0, dir("a", "b"))
	stack(t, [][][]api.Leaf{nil, has}, "/", 0, dir())
	stack(t, [][][]api.Leaf{{}, nil, has}, "/", 0, dir())
	stack(t, [][][]api.Leaf{rows("", ""), has}, "/", 0, dir())
	stack(t, [][][]api.Leaf{has, nil}, "/", 0, dir("a", "b"))
	stack(t, append(make([][][]api.Leaf, 5), has), "/", 0, dir())
	stack(t, [][][]api.Leaf{rows("/c"), has}, "/", 0, dir("c"))
}

// P17.2: as many rows of rows as there may be, and more, whatever they are, and whatever is asked.
func TestStackLong(t *testing.T) {
	full := slices.Repeat([][][]api.Leaf{most()}, api.MaxStack)
	stack(t, full, "/0315", 0, file(15, "15 3"))
	stack(t, full, "/q", -1, none)
	for _, many := range []int{7, 8, 100, 1000} {
		for _, p := range []string{"/", "/x", "/0315", "", "x", "/x/"} {
			noStack(t, make([][][]api.Leaf, many), p, api.ErrLong)
			noStack(t, slices.Repeat([][][]api.Leaf{rows("/x")}, many), p, api.ErrLong)
			noStack(t, append(slices.Clone(full), make([][][]api.Leaf, many-6)...), p, api.ErrLong)
			for _, l := range [][][]api.Leaf{rows("/x", "/x"), rows("/x/f"), make([][]api.Leaf, 17)} {
				noStack(t, slices.Repeat([][][]api.Leaf{l}, many), p, api.ErrLong)
				noStack(t, append(make([][][]api.Leaf, many-1), l), p, api.ErrLong)
			}
		}
	}
}

// P17.2: a row of rows that may not be, ahead of and behind the one that has it, at each place.
func TestStackWrong(t *testing.T) {
	has := rows("/x/ /x/f=1")
	for n, one := range allWrong() {
		many := 1 + n%api.MaxStack
		for _, fill := range [][][]api.Leaf{nil, has, rows("/y")} {
			for at := range many {
				l := slices.Repeat([][][]api.Leaf{fill}, many)
				l[at] = one.rows
				for _, p := range []string{"/", "/x/f", "/q"} {
					noStack(t, l, p, one.e)
				}
				if at == 0 {
					noStack(t, l, "x", one.e)
				} else {
					noStack(t, l, "x", api.ErrPath)
				}
				if at > 0 {
					l[0] = has
					noStack(t, l, "/x/f", one.e)
					l[0] = fill
				}
				if at < many-1 {
					l[many-1] = has
					noStack(t, l, "/x/f", one.e)
				}
			}
		}
	}
}

// P17.2: of several that may not be the first one counts, not the least.
func TestStackSeveral(t *testing.T) {
	good := rows("/x/ /x/f=1")
	errs := map[api.Errno][][]api.Leaf{api.ErrLong: make([][]api.Leaf, 17), api.ErrPack: rows("/x/f"), api.ErrClash: rows("/x", "/x")}
	for first, a := range errs {
		for second, b := range errs {
			for _, p := range []string{"/", "/x/f", "/q"} {
				noStack(t, [][][]api.Leaf{a, b}, p, first)
				noStack(t, [][][]api.Leaf{a, good, b}, p, first)
				noStack(t, [][][]api.Leaf{good, a, b, good}, p, first)
				noStack(t, [][][]api.Leaf{nil, b, a, good}, p, second)
			}
			noStack(t, [][][]api.Leaf{a, b}, "x", first)
			noStack(t, [][][]api.Leaf{nil, a, b}, "x", api.ErrPath)
		}
	}
}

// P17.2: what is no path, of a stack that may be.
func TestStackPath(t *testing.T) {
	for _, p := range badPaths() {
		for many := 1; many <= api.MaxStack; many++ {
			noStack(t, make([][][]api.Leaf, many), p, api.ErrPath)
			noStack(t, slices.Repeat([][][]api.Leaf{rows("/x/ /x/f")}, many), p, api.ErrPath)
		}
	}
}
