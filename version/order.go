package version

import (
	"cmp"
	"strings"

	"puncheon/api"
)

// valid tells whether v may be.
func valid(v api.Version) bool {
	if v.Many < 1 || v.Many > api.MaxNumbers {
		return false
	}
	for n, x := range v.Numbers {
		if x < 0 || x > api.MaxNumber || n >= v.Many && x != 0 {
			return false
		}
	}
	if v.Tag == "" {
		return v.Step == 0
	}
	return validTag(v.Tag) && v.Step >= 0 && v.Step <= api.MaxStep
}

// validTag tells whether a Tag that is not empty may be.
func validTag(tag string) bool {
	if tag == "" || len(tag) > api.MaxTag {
		return false
	}
	_, rest := cutLetters(tag)
	return rest == ""
}

// begin answers the version, without a Tag, of so many first numbers of v.
func begin(v api.Version, many int) api.Version {
	w := api.Version{Many: many}
	copy(w.Numbers[:], v.Numbers[:many])
	return w
}

// compare is Compare of versions that are known to be such as may be.
func compare(a, b api.Version) int {
	numbers := firstOf(len(a.Numbers), func(n int) int { return cmp.Compare(a.Numbers[n], b.Numbers[n]) })
	return cmp.Or(numbers, compareTags(a.Tag, b.Tag), cmp.Compare(a.Step, b.Step), cmp.Compare(a.Many, b.Many))
}

// firstOf answers how two things differ at the first of so many places at which they do, 0 if they differ at none.
func firstOf(places int, differ func(place int) int) int {
	for n := range places {
		if c := differ(n); c != 0 {
			return c
		}
	}
	return 0
}

// compareTags puts no Tag behind all others, since what has one is not out yet.
func compareTags(a, b string) int {
	switch {
	case a == b:
		return 0
	case a == "":
		return 1
	case b == "":
		return -1
	}
	return strings.Compare(a, b)
}
