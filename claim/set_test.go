package claim_test

import (
	"fmt"
	"math"
	"slices"
	"strings"
	"testing"

	"puncheon/api"
	"puncheon/claim"
)

// place is a sort of number, word one of text: sets may be of these, too.
type (
	place int
	word  string
)

// union asks for the union of sets, and tells what is otherwise.
func union[T api.Key](t *testing.T, want []T, l ...[]T) {
	t.Helper()
	if got := claim.Union(l...); !slices.Equal(got, want) {
		t.Errorf("Union(%s): %s, not %s", short(l), short(got), short(want))
	}
}

// between asks for what is in both of two sets, and what is in the first one alone, and tells what is otherwise.
func between[T api.Key](t *testing.T, a, b, meet, less []T) {
	t.Helper()
	if got := claim.Meet(a, b); !slices.Equal(got, meet) {
		t.Errorf("Meet(%s, %s): %s, not %s", short(a), short(b), short(got), short(meet))
	}
	if got := claim.Less(a, b); !slices.Equal(got, less) {
		t.Errorf("Less(%s, %s): %s, not %s", short(a), short(b), short(got), short(less))
	}
}

// P16.1: unions of numbers: of no set, of empty ones, of what is out of order, of what comes twice, in one or in several.
func TestUnionNumbers(t *testing.T) {
	union[int](t, nil)
	union[int](t, nil, nil)
	union[int](t, nil, nil, []int{}, make([]int, 0, 4))
	union(t, []int{0}, []int{0})
	union(t, []int{5}, nil, []int{5}, nil)
	union(t, []int{1, 2, 3}, []int{3, 1, 3}, []int{2})
	union(t, []int{1, 2, 3}, []int{3, 2, 1})
	union(t, []int{1, 2, 3}, []int{1, 2, 3})
	union(t, []int{1, 2, 3}, []int{1, 2, 3}, []int{1, 2, 3}, []int{2})
	union(t, []int{7}, []int{7, 7, 7, 7})
	union(t, []int{1, 2, 3}, []int{2, 1, 2, 3, 1, 2})
	union(t, []int{1, 2, 3, 4, 5, 6}, []int{6, 5}, []int{}, []int{2, 1}, []int{4}, []int{3})
	union(t, []int{-10, -9, -1, 0, 1, 9, 10}, []int{10, 9, 1}, []int{0}, []int{-1, -10, -9})
	union(t, []int{math.MinInt, -1, 0, math.MaxInt}, []int{math.MaxInt, 0, math.MinInt}, []int{-1, math.MaxInt})
	union(t, []place{-1, 0, 2}, []place{2, 0}, []place{-1, 2})
}

// P16.1: unions of texts, which rise byte by byte: of no byte, one that begins with another one, of any bytes.
func TestUnionTexts(t *testing.T) {
	union[string](t, nil)
	union(t, nil, nil, []string{})
	union(t, []string{""}, []string{"", ""})
	union(t, []string{"a", "b", "c"}, []string{"c", "a", "c"}, []string{"b"})
	union(t, []string{"", "a", "a\x00", "a\x00a", "aa", "ab", "b"}, []string{"b", "ab", "aa"}, []string{"a\x00a", "a\x00", "a", ""})
	union(t, []string{"-1", "1", "10", "2"}, []string{"2", "10", "1", "-1"})
	union(t, []string{"/a", "/a-b", "/a/b"}, []string{"/a/b", "/a-b", "/a"})
	union(t, []string{"\x00", "\n", " ", "A", "B", "Z", "_", "a", "z", "é", "\xff", "\xff\x00", "\xff\xff"}, []string{"\xff\xff", "é", "z", "B", "\xff"}, []string{"a", "_", "Z", "A", " ", "\n", "\x00", "\xff\x00"})
	union(t, []string{"e\u0301", "é"}, []string{"é", "e\u0301", "é"})
	union(t, []word{"a", "b"}, []word{"b"}, []word{"a", "b"})
	var each []string
	for n := range 256 {
		each = append(each, string([]byte{byte(n)}))
	}
	turned := slices.Clone(each)
	slices.Reverse(turned)
	union(t, each, turned, each)
}

// P16.1: what is in both of two sets of numbers, and what is in one alone.
func TestBetweenNumbers(t *testing.T) {
	between[int](t, nil, nil, nil, nil)
	between(t, []int{}, nil, nil, nil)
	between(t, nil, []int{1, 2}, nil, nil)
	between(t, []int{2, 1, 2}, nil, nil, []int{1, 2})
	between(t, []int{1, 2, 3}, []int{3, 1}, []int{1, 3}, []int{2})
	between(t, []int{1, 2, 3}, []int{2}, []int{2}, []int{1, 3})
	between(t, []int{3, 1, 2}, []int{1, 2, 3}, []int{1, 2, 3}, nil)
	between(t, []int{1, 2, 3}, []int{4, 5, 6}, nil, []int{1, 2, 3})
	between(t, []int{4, 5, 6}, []int{1, 2, 3}, nil, []int{4, 5, 6})
	between(t, []int{2, 2, 1, 1}, []int{9, 2, 2, 9}, []int{2}, []int{1})
	between(t, []int{5, 5}, []int{5}, []int{5}, nil)
	between(t, []int{5}, []int{5, 5}, []int{5}, nil)
	between(t, []int{5, 5}, []int{6}, nil, []int{5})
	between(t, []int{0, -1, -2}, []int{-2, 2, 1, 0}, []int{-2, 0}, []int{-1})
	between(t, []int{1, -1}, []int{-1}, []int{-1}, []int{1})
	between(t, []int{math.MaxInt, 0, math.MinInt}, []int{math.MinInt, math.MaxInt}, []int{math.MinInt, math.MaxInt}, []int{0})
	between(t, []place{3, 1, 3, 2}, []place{3, 0}, []place{3}, []place{1, 2})
}

// P16.1: what is in both of two sets of texts, and what is in one alone.
func TestBetweenTexts(t *testing.T) {
	between[string](t, nil, nil, nil, nil)
	between(t, nil, []string{""}, nil, nil)
	between(t, []string{""}, nil, nil, []string{""})
	between(t, []string{"", "a"}, []string{""}, []string{""}, []string{"a"})
	between(t, []string{"a", "b", "c"}, []string{"b"}, []string{"b"}, []string{"a", "c"})
	between(t, []string{"ab", "a", "ab", "abc"}, []string{"ab", "b"}, []string{"ab"}, []string{"a", "abc"})
	between(t, []string{"a", "ab"}, []string{"a\x00", "A", "aB"}, nil, []string{"a", "ab"})
	between(t, []string{"\xff", "\x00", "\xfe"}, []string{"\x00", "\xff"}, []string{"\x00", "\xff"}, []string{"\xfe"})
	between(t, []string{"10", "9", "1"}, []string{"9"}, []string{"9"}, []string{"1", "10"})
	between(t, []word{"c", "a", "b"}, []word{"c", "d"}, []word{"c"}, []word{"a", "b"})
}

// plainSet is what of these, which rise, the function takes.
func plainSet[T api.Key](all []T, take func(T) bool) []T {
	var l []T
	for _, one := range all {
		if take(one) {
			l = append(l, one)
		}
	}
	return l
}

// setLaws holds all that is asked of two sets of these, which rise, against a second reading, and against one another.
func setLaws[T api.Key](t *testing.T, all, a, b []T) {
	t.Helper()
	inA, inB := func(x T) bool { return slices.Contains(a, x) }, func(x T) bool { return slices.Contains(b, x) }
	either, meet := plainSet(all, func(x T) bool { return inA(x) || inB(x) }), plainSet(all, func(x T) bool { return inA(x) && inB(x) })
	onlyA, onlyB := plainSet(all, func(x T) bool { return inA(x) && !inB(x) }), plainSet(all, func(x T) bool { return inB(x) && !inA(x) })
	union(t, either, a, b)
	union(t, either, b, a)
	between(t, a, b, meet, onlyA)
	between(t, b, a, meet, onlyB)
	inOrder := plainSet(all, inA)
	union(t, inOrder, a)
	union(t, inOrder, a, a)
	between(t, a, a, inOrder, nil)
	both, less, other := claim.Meet(a, b), claim.Less(a, b), claim.Less(b, a)
	union(t, either, both, less, other)
	union(t, inOrder, both, less)
	between(t, both, less, nil, both)
	between(t, less, other, nil, less)
	between(t, other, both, nil, other)
}

// P16.1, P16.5: all short sets of some numbers, and of some texts, whatever their order, and however often they have something.
func TestLawShortSets(t *testing.T) {
	for _, a := range lists(3, 1, -2, 0, 10, 9) {
		for _, b := range lists(3, 9, -2, 0, 10, 1) {
			setLaws(t, []int{-2, 0, 1, 9, 10}, a, b)
		}
	}
	for _, a := range lists(3, "b", "a", "", "a\xff", "ab") {
		for _, b := range lists(3, "ab", "b", "", "a", "a\xff") {
			setLaws(t, []string{"", "a", "ab", "a\xff", "b"}, a, b)
		}
	}
}

// P16.1: the union of several sets, some of which may be the same.
func TestLawSeveralSets(t *testing.T) {
	all := lists(2, 2, -1, 3)
	for _, l := range lists(3, all...) {
		union(t, plainSet([]int{-1, 2, 3}, func(x int) bool {
			return slices.ContainsFunc(l, func(set []int) bool { return slices.Contains(set, x) })
		}), l...)
	}
}

// P16.1, P16.5: long sets.
func TestLawLongSets(t *testing.T) {
	next := numbers()
	for _, most := range []int{3, 50, 300, 1000, 5000} {
		var all []int
		for n := -most; n < most; n++ {
			all = append(all, n)
		}
		var words []string
		for _, name := range numbered(most, 4) {
			words = append(words, strings.TrimLeft(name, "0"))
		}
		slices.Sort(words)
		for range 5 {
			var a, b []int
			var aWords, bWords []string
			for range 200 + next(200) {
				a, b = append(a, next(2*most)-most), append(b, next(2*most)-most)
				aWords, bWords = append(aWords, words[next(most)]), append(bWords, words[next(most)])
			}
			setLaws(t, all, a, b)
			setLaws(t, words, aWords[:150], bWords)
		}
	}
	down := slices.Repeat([]int{7}, 1<<16)
	for n := range down {
		down[n] = -n / 2
	}
	if got := claim.Union(down, down); len(got) != 1<<15 || got[0] != 1-1<<15 || got[1<<15-1] != 0 {
		t.Errorf("a long union has %d", len(got))
	}
}

// roomy is a list in other memory, with room behind its end, in which something stands.
func roomy[T any](l []T, room ...T) []T {
	return append(slices.Clone(l), room...)[:len(l)]
}

// fill puts something at each place of a list, and in the room behind its end.
func fill[T any](l []T, with T) {
	for n := range l[:cap(l)] {
		l[:cap(l)][n] = with
	}
}

// setRule asks that sets that are handed in stay as they are, are not kept, and that each answer is new memory.
func setRule[T api.Key](t *testing.T, a, b []T, room, spoilt T) {
	t.Helper()
	in, inB := roomy(a, room, spoilt), roomy(b, room, spoilt)
	sets := roomy([][]T{in, inB}, []T{room}, nil)
	whole := func() string {
		return fmt.Sprintf("%q", fmt.Sprint(in[:cap(in)], inB[:cap(inB)], sets[:cap(sets)]))
	}
	ask := func() [][]T {
		return [][]T{claim.Union(sets...), claim.Union(in), claim.Meet(in, inB), claim.Less(in, inB)}
	}
	before := whole()
	want := [][]T{claim.Union(slices.Clone(a), slices.Clone(b)), claim.Union(slices.Clone(a)), claim.Meet(slices.Clone(a), slices.Clone(b)), claim.Less(slices.Clone(a), slices.Clone(b))}
	first, second := ask(), ask()
	for _, l := range first {
		fill(l, spoilt)
	}
	if whole() != before {
		t.Fatalf("%s became %s", before, whole())
	}
	fill(in, spoilt)
	fill(inB, spoilt)
	if !slices.EqualFunc(second, want, slices.Equal[[]T]) {
		t.Fatalf("of %s: %v, not %v", before, second, want)
	}
}

// R3 of P16.1.
func TestRuleSets(t *testing.T) {
	for _, a := range lists(3, 2, -1, 0) {
		for _, b := range lists(3, 0, 2, 5) {
			setRule(t, a, b, 1, 99)
		}
	}
	for _, a := range lists(3, "b", "", "ab") {
		for _, b := range lists(3, "ab", "b", "c") {
			setRule(t, a, b, "a", "spoilt")
		}
	}
}
