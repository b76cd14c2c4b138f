package claim

import (
	"slices"

	"puncheon/api"
)

// within answers a function that tells whether something is in the set.
func within[T api.Key](set []T) func(T) bool {
	rising := Union(set)
	return func(one T) bool {
		_, is := slices.BinarySearch(rising, one)
		return is
	}
}
