package arith

import (
	"math/bits"
)

// What follows reckons without signs. A number is there a list of limbs, the lowest first; the last one isn't 0, where nothing else is said. Unless one is said to be changed, lists are only read, and those that are answered are new.

const (
	limbBits  = 32
	wordLimbs = 2 // of a machine's word of 64 bits
)

// trimmed: the list without noughts at its end. It shares the list's memory.
func trimmed(a []uint32) []uint32 {
	n := len(a)
	for n > 0 && a[n-1] == 0 {
		n--
	}
	return a[:n]
}

func copied(a []uint32) []uint32 {
	out := make([]uint32, len(a))
	copy(out, a)
	return out
}

func splitWord(w uint64) []uint32 {
	return trimmed([]uint32{uint32(w), uint32(w >> limbBits)})
}

// joinWord: of at most wordLimbs limbs.
func joinWord(a []uint32) uint64 {
	w := uint64(0)
	for i, limb := range a {
		w |= uint64(limb) << (i * limbBits)
	}
	return w
}

func bitLength(a []uint32) int {
	if len(a) == 0 {
		return 0
	}
	return (len(a)-1)*limbBits + bits.Len32(a[len(a)-1])
}

func cmpLimbs(a, b []uint32) int {
	if len(a) != len(b) {
		if len(a) < len(b) {
			return -1
		}
		return 1
	}
	for i := len(a) - 1; i >= 0; i-- {
		if a[i] < b[i] {
			return -1
		}
		if a[i] > b[i] {
			return 1
		}
	}
	return 0
}

func addLimbs(a, b []uint32) []uint32 {
	if len(a) < len(b) {
		a, b = b, a
	}
	out := make([]uint32, len(a)+1)
	copy(out, a)
	carry := uint64(0)
	for i := range out {
		if i >= len(b) && carry == 0 {
			break
		}
		sum := uint64(out[i]) + carry
		if i < len(b) {
			sum += uint64(b[i])
		}
		out[i] = uint32(sum)
		carry = sum >> limbBits
	}
	return trimmed(out)
}

// subLimbs: a less b, which isn't greater.
func subLimbs(a, b []uint32) []uint32 {
	out := copied(a)
	borrow := uint32(0)
	for i := range out {
		if i >= len(b) && borrow == 0 {
			break
		}
		limb := uint32(0)
		if i < len(b) {
			limb = b[i]
		}
		out[i], borrow = bits.Sub32(out[i], limb, borrow)
	}
	return trimmed(out)
}

func mulLimbs(a, b []uint32) []uint32 {
	out := make([]uint32, len(a)+len(b))
	for i, x := range a {
		carry := uint64(0)
		for j, y := range b {
			sum := uint64(x)*uint64(y) + uint64(out[i+j]) + carry
			out[i+j] = uint32(sum)
			carry = sum >> limbBits
		}
		out[i+len(b)] = uint32(carry)
	}
	return trimmed(out)
}

// scaleLimbs: a taken by a factor that isn't 0, and a limb added.
func scaleLimbs(a []uint32, factor, more uint32) []uint32 {
	out := make([]uint32, len(a)+1)
	carry := uint64(more)
	for i, x := range a {
		sum := uint64(x)*uint64(factor) + carry
		out[i] = uint32(sum)
		carry = sum >> limbBits
	}
	out[len(a)] = uint32(carry)
	return trimmed(out)
}

// shrinkLimbs changes a to its quotient by a limb, which may then end with a nought, and answers the rest.
func shrinkLimbs(a []uint32, by uint32) uint32 {
	rest := uint64(0)
	for i := len(a) - 1; i >= 0; i-- {
		here := rest<<limbBits | uint64(a[i])
		a[i] = uint32(here / uint64(by))
		rest = here % uint64(by)
	}
	return uint32(rest)
}

func gcdWords(a, b uint64) uint64 {
	for b != 0 {
		a, b = b, a%b
	}
	return a
}
