package sha

import "math/bits"

// primes are the first 64.
var primes = [64]uint64{
	2, 3, 5, 7, 11, 13, 17, 19, 23, 29, 31, 37, 41, 43, 47, 53,
	59, 61, 67, 71, 73, 79, 83, 89, 97, 101, 103, 107, 109, 113, 127, 131,
	137, 139, 149, 151, 157, 163, 167, 173, 179, 181, 191, 193, 197, 199, 211, 223,
	227, 229, 233, 239, 241, 251, 257, 263, 269, 271, 277, 281, 283, 293, 307, 311,
}

// aboveRoots is above each root that is looked for: the greatest is the cube root of 311.
const aboveRoots = 8

// beginnings answers the words ahead of all blocks.
func beginnings() [8]uint32 {
	var words [8]uint32
	for n := range words {
		p := primes[n]
		words[n] = behindPoint(func(x uint64) bool { return squareBelow(x, p) })
	}
	return words
}

// behindPoint answers the first 32 bits behind the point of a root of which below tells whether x over 2^32 is less. It halves what the root may be: so no bit hangs on how floats are rounded.
func behindPoint(below func(x uint64) bool) uint32 {
	low, high := uint64(0), uint64(aboveRoots<<32)
	for high-low > 1 {
		middle := (low + high) / 2
		if below(middle) {
			low = middle
		} else {
			high = middle
		}
	}
	return uint32(low)
}

// squareBelow tells whether the square of x over 2^32 is less than p: of the square of x all but the lowest 64 bits decide.
func squareBelow(x, p uint64) bool {
	high, _ := bits.Mul64(x, x)
	return high < p
}

// cubeBelow tells whether the cube of x over 2^32 is less than p: of the cube of x, too, all but the lowest 64 bits decide.
func cubeBelow(x, p uint64) bool {
	high, low := bits.Mul64(x, x)
	carry, _ := bits.Mul64(low, x)
	return high*x+carry < p<<32
}
