package arith

import (
	"math/bits"
)

// divLimbs: the quotient and the rest of a by b, which isn't 0. (Long division, limb by limb: Knuth's algorithm D.)
func divLimbs(a, b []uint32) ([]uint32, []uint32) {
	if cmpLimbs(a, b) < 0 {
		return nil, copied(a)
	}
	if len(b) == 1 {
		quot := copied(a)
		rest := shrinkLimbs(quot, b[0])
		return trimmed(quot), trimmed([]uint32{rest})
	}
	// With the divisor's highest bit set, the guess of a limb is never far off.
	shift := bits.LeadingZeros32(b[len(b)-1])
	rest := shiftedUp(a, shift)
	by := trimmed(shiftedUp(b, shift))
	quot := make([]uint32, len(a)-len(b)+1)
	for i := len(quot) - 1; i >= 0; i-- {
		quot[i] = divStep(rest[i:i+len(by)+1], by)
	}
	shiftDown(rest, shift)
	return trimmed(quot), trimmed(rest)
}

// divStep: how often by, its highest bit set, goes into rest, which is changed to what is left. Rest has a limb more than by, and without its lowest limb it is less than by: so the answer fits into a limb.
func divStep(rest, by []uint32) uint32 {
	limb := guessLimb(rest, by)
	if takeOff(rest, by, limb) {
		limb--
		putBack(rest, by)
	}
	return limb
}

// guessLimb: a limb of the quotient by the two highest limbs of by: right, or too great by 1.
func guessLimb(rest, by []uint32) uint32 {
	n := len(by)
	high := uint64(rest[n])<<limbBits | uint64(rest[n-1])
	guess, left := high/uint64(by[n-1]), high%uint64(by[n-1])
	for guess>>limbBits != 0 || guess*uint64(by[n-2]) > left<<limbBits|uint64(rest[n-2]) {
		guess--
		left += uint64(by[n-1])
		if left>>limbBits != 0 {
			break
		}
	}
	return uint32(guess)
}

// takeOff takes limb times by off rest; true: that went below 0, and wrapped round.
func takeOff(rest, by []uint32, limb uint32) bool {
	carry, borrow := uint64(0), uint32(0)
	for i, x := range by {
		product := uint64(x)*uint64(limb) + carry
		carry = product >> limbBits
		rest[i], borrow = bits.Sub32(rest[i], uint32(product), borrow)
	}
	n := len(by)
	rest[n], borrow = bits.Sub32(rest[n], uint32(carry), borrow)
	return borrow != 0
}

// putBack adds by to rest, once; what is carried out undoes the wrap of takeOff.
func putBack(rest, by []uint32) {
	carry := uint32(0)
	for i, x := range by {
		rest[i], carry = bits.Add32(rest[i], x, carry)
	}
	rest[len(by)] += carry
}

// shiftedUp: by less than a limb's bits; one limb longer, whether it is needed or not.
func shiftedUp(a []uint32, shift int) []uint32 {
	out := make([]uint32, len(a)+1)
	for i, x := range a {
		wide := uint64(x) << shift
		out[i] |= uint32(wide)
		out[i+1] = uint32(wide >> limbBits)
	}
	return out
}

// shiftDown shifts a itself, by less than a limb's bits.
func shiftDown(a []uint32, shift int) {
	for i := range a {
		wide := uint64(a[i])
		if i+1 < len(a) {
			wide |= uint64(a[i+1]) << limbBits
		}
		a[i] = uint32(wide >> shift)
	}
}
