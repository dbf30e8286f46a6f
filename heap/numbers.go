package heap

import "math/bits"

// wordBits is how many numbers one word of a set holds.
const wordBits = 64

// numbers is a set of numbers from 0 to MaxHeap - 1, one bit each: the lowest one that is not in it is found without looking at every element.
type numbers [MaxHeap / wordBits]uint64

// has reports whether a number, which may be any one, is in the set.
func (s *numbers) has(n int) bool {
	return n >= 0 && n < MaxHeap && s[n/wordBits]>>(n%wordBits)&1 == 1
}

// flip adds a number that is not in the set, or takes away one that is.
func (s *numbers) flip(n int) { s[n/wordBits] ^= 1 << (n % wordBits) }

// lowestOut returns the lowest number that is not in the set, or MaxHeap.
func (s *numbers) lowestOut() int {
	for i, word := range s {
		if out := bits.TrailingZeros64(^word); out < wordBits {
			return i*wordBits + out
		}
	}
	return MaxHeap
}
